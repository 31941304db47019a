/- RowShares: the model's function and the program's. -/
import Derived.Test.YticggclpaalhgaaSpB
import Derived.Test.YticggclpaalhgaaRdC
import Derived.Test.YticggclpaalhgaaTxK
import Derived.Test.YticggclpaalhgaaIntO
import Derived.Deep.QuietTactic
import Derived.BigQuiet
namespace Go.Proofs.Yticggclpaalhgaa
open Go.RowKit Go.ChangeMaps Go.MapKept Go.Deep
set_option linter.unusedVariables false
set_option linter.unusedSimpArgs false

/-- How many of the bytes row j has. -/
def cntB (xs : List ByteArray) (l : List UInt8) (j : Nat) : Nat := (l.filter fun b => decide ((look6 b (keysFrom 0 xs)).map (·.1) = some j)).length
def sharesL (xs : List ByteArray) (l : List UInt8) : List Int := (List.range xs.length).map fun j => (cntB xs l j : Int)
def shrR (xs : List ByteArray) (s : ByteArray) : List Int × Int :=
  if layOk xs = true then (if textOk s = true then (if (s.data.toList.all fun b => (look6 b (keysFrom 0 xs)).isSome) = true then (sharesL xs s.data.toList, 0) else ([], 3)) else ([], 2)) else ([], 1)
def InOut (r : List Int × Int) (w : World) (e : Ending) (w' : World) : Prop := ∃ A n c, e = .returned (.tuple #[.slice A n c, .int .i64 r.2]) ∧ n ≤ 1048576 ∧ OInts w' w.heap.size A n r.1 ∧ Below w.heap.size w w'
theorem cnt_step {xs : List ByteArray} {s : ByteArray} {k : Nat} (hk : k < s.size) {p : Nat × Nat} (hp : look6 (s[k]'hk) (keysFrom 0 xs) = some p) (j : Nat) :
    cntB xs (s.data.toList.take (k + 1)) j = if j = p.1 then cntB xs (s.data.toList.take k) j + 1 else cntB xs (s.data.toList.take k) j := by
  have hat := bytes_at s hk
  obtain ⟨h1, h2⟩ := List.getElem?_eq_some_iff.1 hat
  unfold cntB
  rw [List.take_succ_eq_append_getElem h1, h2, List.filter_append, List.length_append]
  by_cases h : j = p.1
  · subst h
    simp [hp]
  · have : ¬ p.1 = j := fun e => h e.symm
    simp [hp, h, this]
theorem cnt_le (xs : List ByteArray) (l : List UInt8) (j : Nat) : cntB xs l j ≤ l.length := List.length_filter_le _ _
theorem spot_row {xs : List ByteArray} {b : UInt8} {p : Nat × Nat} (h : look6 b (keysFrom 0 xs) = some p) : p.1 < xs.length := by
  obtain ⟨_, s, hs, _⟩ := keysFrom_mem.1 (look6_mem h)
  exact (List.getElem?_eq_some_iff.1 hs).1
theorem shr_own {w : World} {g base n : Nat} {f : Nat → Value} {xs : List ByteArray} {l : List UInt8} (hr : w.rowIs g 2 n f) (hl : xs.length = n) (hf : ∀ j, j < n → f j = .int .i64 (cntB xs l j : Int)) (hb : base ≤ g) : OInts w base (some ⟨g, 0, none⟩) n (sharesL xs l) := by
  refine ⟨by simp [sharesL, hl], .inr ⟨g, n, f, rfl, hb, hr, by omega, fun i x hx j u hu => ?_⟩⟩
  obtain ⟨h1, h2⟩ := List.getElem?_eq_some_iff.1 hx
  simp only [sharesL, List.length_map, List.length_range] at h1
  have hx' : x = (cntB xs l i : Int) := by
    rw [← h2]
    simp [sharesL]
  match j, hu with
  | 0, hu =>
    cases hu
    refine ⟨by omega, ?_⟩
    rw [Nat.mul_one, Nat.add_zero, hf i (by omega), hx']
  | j + 1, hu => simp [intC] at hu

set_option maxRecDepth 100000 in
set_option maxHeartbeats 1600000 in
theorem shr_spec (A : Option Addr) (n c : Nat) (xs : List ByteArray) (s : ByteArray) (w : World) (h : Strs w A n xs) (hn : n ≤ 1048576) (hs : ∀ x ∈ xs, x.size ≤ 1048576) (hs1 : s.size ≤ 1048576) :
    Calls Try.prog 37 #[.agg #[.slice A n c], .string s] w (InOut (shrR xs s) w) := by
  generalize hr : shrR xs s = r
  replace hr := Lib.hid hr.symm
  have hl := Lib.hid h.1
  have hb0 := Lib.hid (below_a1 w (.cells #[.slice A n c] 27))
  have hS := h.below hb0.out
  have k0 : (w.alloc (.cells #[.slice A n c] 27)).cell? ⟨w.heap.size, 0, none⟩ = some (.slice A n c) := cell_new rfl rfl
  cases h1 : layOk xs with
  | false =>
    have hres : Hid (r = ([], 1)) := Lib.hid (by rw [hr.out]; simp [shrR, h1])
    have hq := Lib.hid (ok6_spec w.heap.size A n c xs _ (cell_new rfl rfl) hS hn hs false h1)
    clear h1 hr
    go_enter Try.func37, Try.ntmps37
    go_wp2_with fail
    refine hq.out.mono ?_
    rintro e w1 ⟨rfl, hb1⟩
    have hbw := Lib.hid (hb0.out.step hb1)
    go_wp2
    go_ret2
    exact ⟨none, 0, 0, by rw [hres.out]; rfl, by omega, by rw [hres.out]; exact ⟨rfl, .inl ⟨rfl, rfl⟩⟩, hbw.out⟩
  | true =>
    have hq := Lib.hid (ok6_spec w.heap.size A n c xs _ (cell_new rfl rfl) hS hn hs true h1)
    cases h2 : textOk s with
    | false =>
      have hres : Hid (r = ([], 2)) := Lib.hid (by rw [hr.out]; simp [shrR, h1, h2])
      have hq2 := Lib.hid (fun W => text_spec s false h2 W hs1)
      clear h1 h2 hr
      go_enter Try.func37, Try.ntmps37
      go_wp2_with fail
      refine hq.out.mono ?_
      rintro e w1 ⟨rfl, hb1⟩
      have hbw := Lib.hid (hb0.out.step hb1)
      go_wp2_with fail
      refine (hq2.out _).mono ?_
      rintro e w2 ⟨rfl, rfl⟩
      go_wp2
      go_ret2
      exact ⟨none, 0, 0, by rw [hres.out]; rfl, by omega, by rw [hres.out]; exact ⟨rfl, .inl ⟨rfl, rfl⟩⟩, hbw.out⟩
    | true =>
      have hr1 : Hid (r = if (s.data.toList.all fun b => (look6 b (keysFrom 0 xs)).isSome) = true then (sharesL xs s.data.toList, 0) else ([], 3)) := Lib.hid (by rw [hr.out]; simp only [shrR, h1, h2, if_true])
      have hq2 := Lib.hid (fun W => text_spec s true h2 W hs1)
      have hcall := Lib.hid (fun z W (hW : Strs W A n xs) => at_spec A n c xs z W hW hn hs _ rfl)
      obtain ⟨i0, hi, hz0, hz1, hz2⟩ := info_parts Try.infoI64
      have hmk := fun W => run_make_many (P := Try.prog) 46 2 i0 _ Try.underlying46 hi hz0 .i64 .i64 n (by rw [hz2]; omega) (by omega) W
      rw [hz1] at hmk
      clear h1 h2 hr
      go_enter Try.func37, Try.ntmps37
      go_wp2_with fail
      refine hq.out.mono ?_
      rintro e w1 ⟨rfl, hb1⟩
      have hbw := Lib.hid (hb0.out.step hb1)
      have hS1 := hS.below hb1
      have k1 := cell_step k0 hb1
      go_wp2_with fail
      refine (hq2.out _).mono ?_
      rintro e w2 ⟨rfl, rfl⟩
      rename World => wa
      go_wp2
      have hmr := World.rowIs_made wa (.int .i64 0) n 2
      have hmb := Lib.hid (below_a1 wa (.cells (madeCells #[.int .i64 0] n) 2))
      go_loopw [7, 8, 9] (fun i _ _ wr => ∃ (k : Nat) (f : Nat → Value), k ≤ s.size ∧ i = .int .i64 k ∧ (∀ j (hj : j < s.size), j < k → (look6 (s[j]'hj) (keysFrom 0 xs)).isSome = true) ∧ wr.rowIs wa.heap.size 2 n f ∧ (∀ j, j < n → f j = .int .i64 (cntB xs (s.data.toList.take k) j : Int)) ∧ Below wa.heap.size wa wr) (fun i _ _ _ => s.size - (intOf i).toNat)
      case atStart => exact ⟨0, _, by omega, rfl, fun j hj h => absurd h (by omega), hmr, fun j _ => by simp [cntB], hmb.out⟩
      case round =>
        obtain ⟨k, f, hk, rfl, hall, hrow, hf, hbr⟩ := hrel
        replace hall := Lib.hid hall
        replace hf := Lib.hid hf
        have q1 := cell_step k1 hbr
        have hSr := hS1.below hbr
        by_cases hlt : k < s.size
        · have hk0 : (0 : Int) ≤ (k : Int) := Int.natCast_nonneg _
          have hk1 : (k : Int) < (s.size : Int) := by omega
          cases hp : look6 (s[k]'hlt) (keysFrom 0 xs) with
          | none =>
            have hc1 := Lib.hid (hcall.out (s[k]'hlt))
            rw [hp] at hc1
            simp only [atI] at hc1
            have hres : Hid (r = ([], 3)) := Lib.hid (by
              rw [hr1.out, if_neg]
              rw [List.all_eq_true]
              intro hh
              have := hh _ (List.mem_of_getElem? (bytes_at s hlt))
              rw [hp] at this
              cases this)
            clear hp
            go_wp2_with fail
            go_quiet ((go_at_call 57; refine quiet_l (hc1.out _ ?_); exact hSr.drewN _))
            go_wp2
            go_ret2
            exact ⟨none, 0, 0, by rw [hres.out]; rfl, by omega, by rw [hres.out]; exact ⟨rfl, .inl ⟨rfl, rfl⟩⟩, hbw.out.step (below_drewN hbr _)⟩
          | some p =>
            have hc1 := Lib.hid (hcall.out (s[k]'hlt))
            rw [hp] at hc1
            simp only [atI] at hc1
            have hpn : p.1 < n := by rw [← hl.out]; exact spot_row hp
            have hstep := Lib.hid (cnt_step hlt hp)
            have hnx : Hid (∀ j (hj : j < s.size), j < k + 1 → (look6 (s[j]'hj) (keysFrom 0 xs)).isSome = true) := Lib.hid fun j hj h => by
              rcases Nat.lt_or_ge j k with h' | h'
              · exact hall.out j hj h'
              · obtain rfl : j = k := by omega
                rw [hp]; rfl
            have hcl := cnt_le xs (s.data.toList.take k) p.1
            have hcl2 : (s.data.toList.take k).length ≤ k := by rw [List.length_take]; omega
            have d0 := hrow.cell (i := p.1) hpn
            rw [hf.out p.1 hpn] at d0
            have e0 := hrow.frozen p.1
            have g0 : decide ((p.1 : Int) < 0) = false := decide_eq_false (by omega)
            have hp0 : (0 : Int) ≤ (p.1 : Int) := Int.natCast_nonneg _
            have hp1 : (p.1 : Int) < (n : Int) := by omega
            have hrl := hrow.lt
            have hrow2 := Lib.hid (hrow.set p.1 (.int .i64 ((cntB xs (s.data.toList.take k) p.1 : Int) + 1)))
            have hb2 := Lib.hid (fun q => (below_drewN hbr q).setCell (p := ⟨wa.heap.size, p.1, none⟩) (Nat.le_refl _) (.int .i64 ((cntB xs (s.data.toList.take k) p.1 : Int) + 1)))
            have hf2 : Hid (∀ j, j < n → (if j = p.1 then Value.int .i64 ((cntB xs (s.data.toList.take k) p.1 : Int) + 1) else f j) = .int .i64 (cntB xs (s.data.toList.take (k + 1)) j : Int)) := Lib.hid fun j hj => by
              rw [hstep.out j]
              by_cases h : j = p.1
              · rw [if_pos h, if_pos h, h]; rfl
              · rw [if_neg h, if_neg h]; exact hf.out j hj
            generalize cntB xs (s.data.toList.take k) p.1 = cc at *
            clear hp hstep
            go_wp2_with fail
            go_quiet ((go_at_call 57; refine quiet_l (hc1.out _ ?_); exact hSr.drewN _))
            go_wp2
            go_roundw
            case rel => exact ⟨k + 1, _, by omega, by go_num, hnx.out, hrow2.out, hf2.out, hb2.out _⟩
            case measure => simp [intOf]; omega
        · obtain rfl : k = s.size := by omega
          have hres : Hid (r = (sharesL xs s.data.toList, 0)) := Lib.hid (by
            rw [hr1.out, if_pos]
            rw [List.all_eq_true]
            intro b hb
            obtain ⟨j, hj, rfl⟩ := List.getElem_of_mem hb
            exact hall.out j (by rw [← size_len]; exact hj) (by rw [← size_len]; exact hj))
          have hfin : Hid (OInts wr w.heap.size (some ⟨wa.heap.size, 0, none⟩) n r.1) := Lib.hid (by
            rw [hres.out]
            refine shr_own hrow hl.out (fun j hj => ?_) hbw.out.size
            rw [hf.out j hj, List.take_of_length_le (by rw [size_len]; exact Nat.le_refl _)])
          have hcode : Hid (r.2 = 0) := Lib.hid (by rw [hres.out])
          have hfb := Lib.hid (hbw.out.step hbr)
          clear hrow hf
          go_wp2
          go_ret2
          exact ⟨_, n, n, by rw [hcode.out]; rfl, hn, hfin.out, hfb.out⟩

set_option maxRecDepth 100000 in
set_option maxHeartbeats 1600000 in
theorem shr_impl (A : Option Addr) (n c : Nat) (xs : List ByteArray) (s : ByteArray) (w : World) (h : Strs w A n xs) (hn : n ≤ 1048576) (hs : ∀ x ∈ xs, x.size ≤ 1048576) (hs1 : s.size ≤ 1048576) :
    Calls Try.prog 38 #[.agg #[.slice A n c], .string s] w (InOut (shrR xs s) w) := by
  generalize hr : shrR xs s = r
  replace hr := Lib.hid hr.symm
  have hl := Lib.hid h.1
  have hb0 := Lib.hid (below_a1 w (.cells #[.slice A n c] 27))
  have hS := h.below hb0.out
  have k0 : (w.alloc (.cells #[.slice A n c] 27)).cell? ⟨w.heap.size, 0, none⟩ = some (.slice A n c) := cell_new rfl rfl
  have hq := Lib.hid (spotsOf_any A n c xs _ hS hn hs)
  obtain ⟨i0, hi, hz0, hz1, hz2⟩ := info_parts Try.infoI64
  have hmk := fun W => run_make_many (P := Try.prog) 46 2 i0 _ Try.underlying46 hi hz0 .i64 .i64 n (by rw [hz2]; omega) (by omega) W
  rw [hz1] at hmk
  go_enter Try.func38, Try.ntmps38
  go_wp2_with fail
  refine hq.out.mono ?_
  rintro e w1 (⟨h1, M, rfl, hM0, hM1, hb1⟩ | ⟨h1, rfl, hb1⟩)
  · have hbw := Lib.hid (hb0.out.step hb1)
    have k1 := cell_step k0 hb1
    cases h2 : textOk s with
    | false =>
      have hres : Hid (r = ([], 2)) := Lib.hid (by rw [hr.out]; simp [shrR, h1, h2])
      have hq2 := Lib.hid (fun W => text_impl s false h2 W hs1)
      clear h1 h2 hr hM1 hb1
      go_wp2_with fail
      refine (hq2.out _).mono ?_
      rintro e w2 ⟨rfl, rfl⟩
      go_wp2
      go_ret2
      exact ⟨none, 0, 0, by rw [hres.out]; rfl, by omega, by rw [hres.out]; exact ⟨rfl, .inl ⟨rfl, rfl⟩⟩, hbw.out⟩
    | true =>
      have hr1 : Hid (r = if (s.data.toList.all fun b => (look6 b (keysFrom 0 xs)).isSome) = true then (sharesL xs s.data.toList, 0) else ([], 3)) := Lib.hid (by rw [hr.out]; simp only [shrR, h1, h2, if_true])
      have hq2 := Lib.hid (fun W => text_impl s true h2 W hs1)
      replace hM1 := Lib.hid hM1
      clear h1 h2 hr hb1 hS
      go_wp2_with fail
      refine (hq2.out _).mono ?_
      rintro e w2 ⟨rfl, rfl⟩
      rename World => wa
      go_wp2
      have hmr := World.rowIs_made wa (.int .i64 0) n 2
      have hmb := Lib.hid (below_a1 wa (.cells (madeCells #[.int .i64 0] n) 2))
      have hMl := hM1.out.lt
      go_loopw [9, 10, 11, 28] (fun _ _ _ i wr => ∃ (k : Nat) (f : Nat → Value), k ≤ s.size ∧ i = .int .i64 k ∧ (∀ j (hj : j < s.size), j < k → (look6 (s[j]'hj) (keysFrom 0 xs)).isSome = true) ∧ wr.rowIs wa.heap.size 2 n f ∧ (∀ j, j < n → f j = .int .i64 (cntB xs (s.data.toList.take k) j : Int)) ∧ Below wa.heap.size wa wr) (fun _ _ _ i _ => s.size - (intOf i).toNat)
      case atStart => exact ⟨0, _, by omega, rfl, fun j hj h => absurd h (by omega), hmr, fun j _ => by simp [cntB], hmb.out⟩
      case round =>
        obtain ⟨k, f, hk, rfl, hall, hrow, hf, hbr⟩ := hrel
        replace hall := Lib.hid hall
        replace hf := Lib.hid hf
        have hMr := hM1.out.below hbr hMl
        have hMrl := hMr.lt
        by_cases hlt : k < s.size
        · have hk0 : (0 : Int) ≤ (k : Int) := Int.natCast_nonneg _
          have hk1 : (k : Int) < (s.size : Int) := by omega
          cases hp : look6 (s[k]'hlt) (keysFrom 0 xs) with
          | none =>
            have hval : (valOf (s[k]'hlt) (spotL6 (keysFrom 0 xs))).getD (.agg #[.int .i64 0, .int .i64 0]) = .agg #[.int .i64 0, .int .i64 0] := by rw [val_spot6, hp]; rfl
            have hok : (valOf (s[k]'hlt) (spotL6 (keysFrom 0 xs))).isSome = false := by rw [val_spot6, hp]; rfl
            have hres : Hid (r = ([], 3)) := Lib.hid (by
              rw [hr1.out, if_neg]
              rw [List.all_eq_true]
              intro hh
              have := hh _ (List.mem_of_getElem? (bytes_at s hlt))
              rw [hp] at this
              cases this)
            replace hval := Lib.hid hval
            replace hok := Lib.hid hok
            clear hp
            go_wp2_with (at_lookup; refine wpList_look_is rfl _ _ _ 5 61 rfl byteKey6 Try.underlying57 (zero_spot6 _) rfl hMr (s[k]'hlt) rfl hval.out hok.out ?_)
            go_ret2
            exact ⟨none, 0, 0, by rw [hres.out]; rfl, by omega, by rw [hres.out]; exact ⟨rfl, .inl ⟨rfl, rfl⟩⟩, hbw.out.step (hbr.step (below_a1 _ _))⟩
          | some p =>
            have hval : (valOf (s[k]'hlt) (spotL6 (keysFrom 0 xs))).getD (.agg #[.int .i64 0, .int .i64 0]) = .agg #[.int .i64 (p.1 : Int), .int .i64 (p.2 : Int)] := by rw [val_spot6, hp]; rfl
            have hok : (valOf (s[k]'hlt) (spotL6 (keysFrom 0 xs))).isSome = true := by rw [val_spot6, hp]; rfl
            replace hval := Lib.hid hval
            replace hok := Lib.hid hok
            have hpn : p.1 < n := by rw [← hl.out]; exact spot_row hp
            have hstep := Lib.hid (cnt_step hlt hp)
            have hnx : Hid (∀ j (hj : j < s.size), j < k + 1 → (look6 (s[j]'hj) (keysFrom 0 xs)).isSome = true) := Lib.hid fun j hj h => by
              rcases Nat.lt_or_ge j k with h' | h'
              · exact hall.out j hj h'
              · obtain rfl : j = k := by omega
                rw [hp]; rfl
            have hcl := cnt_le xs (s.data.toList.take k) p.1
            have hcl2 : (s.data.toList.take k).length ≤ k := by rw [List.length_take]; omega
            have hrl := hrow.lt
            have hrow1 := hrow.alloc (.cells #[.int .i64 (p.1 : Int), .int .i64 (p.2 : Int)] 61)
            have d0 := hrow.cell (i := p.1) hpn
            rw [hf.out p.1 hpn] at d0
            have e0 := hrow.frozen p.1
            have hp0 : (0 : Int) ≤ (p.1 : Int) := Int.natCast_nonneg _
            have hp1 : (p.1 : Int) < (n : Int) := by omega
            have hrow2 := Lib.hid (hrow1.set p.1 (.int .i64 ((cntB xs (s.data.toList.take k) p.1 : Int) + 1)))
            have hrow3 := Lib.hid ((hrow.set p.1 (.int .i64 ((cntB xs (s.data.toList.take k) p.1 : Int) + 1))).alloc (.cells #[.int .i64 (p.1 : Int), .int .i64 (p.2 : Int)] 61))
            have hf2 : Hid (∀ j, j < n → (if j = p.1 then Value.int .i64 ((cntB xs (s.data.toList.take k) p.1 : Int) + 1) else f j) = .int .i64 (cntB xs (s.data.toList.take (k + 1)) j : Int)) := Lib.hid fun j hj => by
              rw [hstep.out j]
              by_cases h : j = p.1
              · rw [if_pos h, if_pos h, h]; rfl
              · rw [if_neg h, if_neg h]; exact hf.out j hj
            generalize cntB xs (s.data.toList.take k) p.1 = cc at *
            clear hp hstep
            go_wp2_with (at_lookup; refine wpList_look_is rfl _ _ _ 5 61 rfl byteKey6 Try.underlying57 (zero_spot6 _) rfl hMr (s[k]'hlt) rfl hval.out hok.out ?_)
            go_roundw
            case rel => first | exact ⟨k + 1, _, by omega, by go_num, hnx.out, hrow2.out, hf2.out, (hbr.alloc hbr.size _).setCell (Nat.le_refl _) _⟩ | exact ⟨k + 1, _, by omega, by go_num, hnx.out, hrow3.out, hf2.out, (hbr.setCell (Nat.le_refl _) _).alloc (by have := hbr.size; simpa [World.setCell] using this) _⟩
            case measure => simp [intOf]; omega
        · obtain rfl : k = s.size := by omega
          have hres : Hid (r = (sharesL xs s.data.toList, 0)) := Lib.hid (by
            rw [hr1.out, if_pos]
            rw [List.all_eq_true]
            intro b hb
            obtain ⟨j, hj, rfl⟩ := List.getElem_of_mem hb
            exact hall.out j (by rw [← size_len]; exact hj) (by rw [← size_len]; exact hj))
          have hfin : Hid (OInts wr w.heap.size (some ⟨wa.heap.size, 0, none⟩) n r.1) := Lib.hid (by
            rw [hres.out]
            refine shr_own hrow hl.out (fun j hj => ?_) hbw.out.size
            rw [hf.out j hj, List.take_of_length_le (by rw [size_len]; exact Nat.le_refl _)])
          have hcode : Hid (r.2 = 0) := Lib.hid (by rw [hres.out])
          have hfb := Lib.hid (hbw.out.step hbr)
          clear hrow hf
          go_wp2
          go_ret2
          exact ⟨_, n, n, by rw [hcode.out]; rfl, hn, hfin.out, hfb.out⟩
  · have hbw := Lib.hid (hb0.out.step hb1)
    have hres : Hid (r = ([], 1)) := Lib.hid (by rw [hr.out]; simp [shrR, h1])
    clear h1 hr
    go_wp2
    go_ret2
    exact ⟨none, 0, 0, by rw [hres.out]; rfl, by omega, by rw [hres.out]; exact ⟨rfl, .inl ⟨rfl, rfl⟩⟩, hbw.out⟩
end Go.Proofs.Yticggclpaalhgaa
