/- The program's reader of layouts: breaks, ends, rows, and a new reader. -/
import Derived.Test.YticggclpaalhgaaRdA
import Derived.LoopTactic
namespace Go.Proofs.Yticggclpaalhgaa
open Go.RowKit Go.ChangeMaps Go.MapKept
set_option linter.unusedVariables false
set_option linter.unusedSimpArgs false

theorem takeEnd_any (R M : Nat) (r : Rd) (w : World) (h : RdAt w R M r) :
    Calls Try.prog 55 #[.pointer (some ⟨R, 0, none⟩)] w fun e w' => e = .returned (.int .i64 (r.stop : Int)) ∧ w = w' := by
  have c1 := h.col
  by_cases h0 : r.col = 0
  · have hres : Hid (r.stop = 1) := Lib.hid (by simp [Rd.stop, h0])
    have g0 : ((r.col : Int) == 0) = true := by rw [h0]; rfl
    clear h h0
    go_enter Try.func55, Try.ntmps55
    go_wp2
    go_ret
    exact ⟨by rw [hres.out]; rfl, rfl⟩
  · have hres : Hid (r.stop = 0) := Lib.hid (by simp [Rd.stop, h0])
    have g0 : ((r.col : Int) == 0) = false := beq_eq_false_iff_ne.2 (by omega)
    clear h h0
    go_enter Try.func55, Try.ntmps55
    go_wp2
    go_ret
    exact ⟨by rw [hres.out]; rfl, rfl⟩
set_option maxHeartbeats 800000 in
theorem takeBreak_any (R M : Nat) (r : Rd) (w : World) (h : RdAt w R M r) (hrow : r.row ≤ 3) :
    Calls Try.prog 81 #[.pointer (some ⟨R, 0, none⟩)] w (RdOut R M r.brk (if r.brk = 0 then r.next else r) w) := by
  have c0 := h.row
  have c1 := h.col
  have f0 := h.free 0
  have f1 := h.free 1
  by_cases h0 : r.col = 0
  · have hres : Hid (r.brk = 1) := Lib.hid (by simp [Rd.brk, h0])
    have g0 : ((r.col : Int) == 0) = true := by rw [h0]; rfl
    rw [hres.out, if_neg (by decide)]
    replace h := Lib.hid h
    clear h0 hres hrow
    go_enter Try.func81, Try.ntmps81
    go_wp2
    go_ret
    exact ⟨rfl, h.out, Only2.of_below (Below.refl _ _)⟩
  · have g0 : ((r.col : Int) == 0) = false := beq_eq_false_iff_ne.2 (by omega)
    by_cases h3 : r.row = 3
    · have hres : Hid (r.brk = 1) := Lib.hid (by simp [Rd.brk, h3])
      have g3 : ((r.row : Int) == 3) = true := by rw [h3]; rfl
      rw [hres.out, if_neg (by decide)]
      replace h := Lib.hid h
      clear h0 hres h3 hrow
      go_enter Try.func81, Try.ntmps81
      go_wp2
      go_ret
      exact ⟨rfl, h.out, Only2.of_below (Below.refl _ _)⟩
    · have hres : Hid (r.brk = 0) := Lib.hid (by simp [Rd.brk, h3, h0])
      have g3 : ((r.row : Int) == 3) = false := beq_eq_false_iff_ne.2 (by omega)
      have hs1 : IntKind.i64.wrap ((r.row : Int) + 1) = (r.row : Int) + 1 := IntWalk.i64_in _ (by omega)
      rw [hres.out, if_pos rfl]
      replace h := Lib.hid h
      clear h0 hres h3 hrow
      go_enter Try.func81, Try.ntmps81
      go_wp2
      go_ret
      have n01 : (⟨R, 0, none⟩ : Addr) ≠ ⟨R, 1, none⟩ := fun e => by cases e
      have n20 : (⟨R, 2, none⟩ : Addr) ≠ ⟨R, 0, none⟩ := fun e => by cases e
      have n21 : (⟨R, 2, none⟩ : Addr) ≠ ⟨R, 1, none⟩ := fun e => by cases e
      refine ⟨rfl, ⟨(World.cell?_setCell_other _ _ _ _ n01.symm).trans (World.cell?_setCell_same _ _ _ c0), World.cell?_setCell_same _ _ _ ((World.cell?_setCell_other _ _ _ _ n01).trans c1), (World.cell?_setCell_other _ _ _ _ n21.symm).trans ((World.cell?_setCell_other _ _ _ _ n20.symm).trans h.out.map), fun o => (World.frozen?_setCell _ _ _ _).trans ((World.frozen?_setCell _ _ _ _).trans (h.out.free o)), h.out.ne, ?_⟩, Only2.trans Only2.set Only2.set⟩
      have hne := h.out.ne
      exact (h.out.spots.block (Below.heap_setCell _ _ _ _ (by simp only; omega))).block (Below.heap_setCell _ _ _ _ (by simp only; omega))
theorem rowF_step {r : Rd} {c : UInt8} {l : List UInt8} (h : r.letter c = 0) : r.rowF (c :: l) = (r.put c).rowF l := by simp only [Rd.rowF]; rw [if_pos h]
theorem rowF_stop {r : Rd} {c : UInt8} {l : List UInt8} (h : ¬ r.letter c = 0) : r.rowF (c :: l) = (r.letter c, r) := by simp only [Rd.rowF]; rw [if_neg h]
theorem letter_col {r : Rd} {c : UInt8} (h : r.letter c = 0) (hc : r.col ≤ 12) : r.col + 1 ≤ 12 := ((letter_zero hc).1 h).2.2
theorem bytes_drop (s : ByteArray) {k : Nat} (hk : k < s.size) : s.data.toList.drop k = (s[k]'hk) :: s.data.toList.drop (k + 1) := by
  rw [List.drop_eq_getElem_cons (by rw [size_len]; exact hk)]
  rfl
theorem bytes_at (s : ByteArray) {k : Nat} (hk : k < s.size) : s.data.toList[k]? = some (s[k]'hk) := by
  rw [List.getElem?_eq_getElem (by rw [size_len]; exact hk)]
  rfl
set_option maxHeartbeats 800000 in
theorem takeRow_any (R M : Nat) (r : Rd) (s : ByteArray) (w : World) (h : RdAt w R M r) (hcol : r.col ≤ 12) (hs : s.size ≤ 1048576) :
    Calls Try.prog 82 #[.pointer (some ⟨R, 0, none⟩), .string s] w (RdOut R M (r.rowF s.data.toList).1 (r.rowF s.data.toList).2 w) := by
  generalize hF : r.rowF s.data.toList = F
  replace hF := Lib.hid hF.symm
  go_enter Try.func82, Try.ntmps82
  go_wp2
  go_loopw [5, 6, 9] (fun _ _ i wr => ∃ (k : Nat) (rk : Rd), k ≤ s.size ∧ i = .int .i64 k ∧ F = rk.rowF (s.data.toList.drop k) ∧ RdAt wr R M rk ∧ Only2 R M w wr ∧ rk.col ≤ 12) (fun _ _ i _ => s.size - (intOf i).toNat)
  case atStart => exact ⟨0, r, by omega, rfl, hF.out, h, Only2.of_below (Below.refl _ _), hcol⟩
  case round =>
    obtain ⟨k, rk, hk, rfl, he, hR, hO, hc⟩ := hrel
    replace he := Lib.hid he
    replace hO := Lib.hid hO
    replace hR := Lib.hid hR
    clear h hcol hF
    by_cases hlt : k < s.size
    · have hd := Lib.hid (bytes_drop s hlt)
      have hcall := Lib.hid (takeLetter_any R M rk (s[k]'hlt) wr hR.out hc)
      by_cases hz : rk.letter (s[k]'hlt) = 0
      · have hnx : Hid (F = (rk.put (s[k]'hlt)).rowF (s.data.toList.drop (k + 1))) := Lib.hid (by rw [he.out, hd.out, rowF_step hz])
        have hc' := Lib.hid (letter_col hz hc)
        replace hcall := Lib.hid (show Calls _ _ _ _ (RdOut R M 0 (rk.put (s[k]'hlt)) wr) by have := hcall.out; rw [hz, if_pos rfl] at this; exact this)
        clear hz hc hd
        go_wp2_with fail
        refine hcall.out.mono ?_
        rintro e w1 ⟨rfl, hR1, hO1⟩
        replace hR1 := Lib.hid hR1
        replace hO1 := Lib.hid (hO.out.trans hO1)
        go_wp2
        go_roundw
        case rel => exact ⟨k + 1, rk.put (s[k]'hlt), by omega, by go_num, hnx.out, hR1.out, hO1.out, hc'.out⟩
        case measure => simp [intOf]; omega
      · have hres : Hid (F = (rk.letter (s[k]'hlt), rk)) := Lib.hid (by rw [he.out, hd.out, rowF_stop hz])
        replace hcall := Lib.hid (show Calls _ _ _ _ (RdOut R M (rk.letter (s[k]'hlt)) rk wr) by have := hcall.out; rw [if_neg hz] at this; exact this)
        generalize rk.letter (s[k]'hlt) = f at *
        have g0 : (!((f : Int) == 0)) = true := by simp; omega
        have g1 : ((f : Int) == 0) = false := beq_eq_false_iff_ne.2 (by omega)
        clear hz hc hd
        go_wp2_with fail
        refine hcall.out.mono ?_
        rintro e w1 ⟨rfl, hR1, hO1⟩
        replace hR1 := Lib.hid hR1
        replace hO1 := Lib.hid (hO.out.trans hO1)
        go_wp2
        go_ret
        exact ⟨by rw [hres.out]; rfl, by rw [hres.out]; exact hR1.out, hO1.out⟩
    · obtain rfl : k = s.size := by omega
      have hres : Hid (F = (0, rk)) := Lib.hid (by rw [he.out, List.drop_of_length_le (by rw [size_len]; exact Nat.le_refl _)]; rfl)
      go_wp2
      go_ret
      exact ⟨by rw [hres.out]; rfl, by rw [hres.out]; exact hR.out, hO.out⟩
theorem newReader_any (w : World) : Calls Try.prog 53 #[] w fun e w' => ∃ M, e = .returned (.agg #[.int .i64 0, .int .i64 0, .map (some M)]) ∧ w.heap.size ≤ M ∧ MapIs byteV w' M (spotL6 []) ∧ Below w.heap.size w w' := by
  have hmm := @run_makeMap Try.prog
  go_enter Try.func53, Try.ntmps53
  go_wp2
  have hM := MapIs.made (enc := byteV) (w.alloc (.cells #[.int .i64 0, .int .i64 0, .map (some (w.heap.size + 1))] 63))
  rw [World.size_alloc] at hM
  refine bodyPost_ret (v := .agg #[.int .i64 0, .int .i64 0, .map (some (w.heap.size + 1))]) (by simp [results, Try.results53, go_sem]) rfl ?_
  exact ⟨w.heap.size + 1, rfl, by omega, hM, below_a2 _ _ _⟩

/-- spotsOf: the spots of all letters in a map of its own, or none. -/
def SpOut (xs : List ByteArray) (w : World) (e : Ending) (w' : World) : Prop :=
  (layOk xs = true ∧ ∃ M, e = .returned (.tuple #[.map (some M), .bool true]) ∧ w.heap.size ≤ M ∧ MapIs byteV w' M (spotL6 (keysFrom 0 xs)) ∧ Below w.heap.size w w') ∨
  (layOk xs = false ∧ e = .returned (.tuple #[.map none, .bool false]) ∧ Below w.heap.size w w')
theorem readFrom_row0 {r : Rd} {s : ByteArray} {l : List ByteArray} (h : (r.rowF s.data.toList).1 = 0) : readFrom 0 r (s :: l) = readFrom 1 (r.rowF s.data.toList).2 l := by simp only [readFrom]; rw [if_pos h]
theorem readFrom_row0_no {r : Rd} {s : ByteArray} {l : List ByteArray} (h : ¬ (r.rowF s.data.toList).1 = 0) : readFrom 0 r (s :: l) = none := by simp only [readFrom]; rw [if_neg h]
theorem readFrom_row {r : Rd} {i : Nat} {s : ByteArray} {l : List ByteArray} (hb : r.brk = 0) (h : (r.next.rowF s.data.toList).1 = 0) : readFrom (i + 1) r (s :: l) = readFrom (i + 2) (r.next.rowF s.data.toList).2 l := by simp only [readFrom]; rw [if_pos hb, if_pos h]
theorem readFrom_row_no {r : Rd} {i : Nat} {s : ByteArray} {l : List ByteArray} (hb : r.brk = 0) (h : ¬ (r.next.rowF s.data.toList).1 = 0) : readFrom (i + 1) r (s :: l) = none := by simp only [readFrom]; rw [if_pos hb, if_neg h]
theorem readFrom_brk_no {r : Rd} {i : Nat} {s : ByteArray} {l : List ByteArray} (hb : ¬ r.brk = 0) : readFrom (i + 1) r (s :: l) = none := by simp only [readFrom]; rw [if_neg hb]
theorem rowF_keeps : ∀ (l : List UInt8) (r : Rd), r.col ≤ 12 → ((r.rowF l).2.col ≤ 12 ∧ (r.rowF l).2.row = r.row)
  | [], r, h => ⟨h, rfl⟩
  | c :: l, r, h => by
    by_cases hz : r.letter c = 0
    · rw [rowF_step hz]
      exact rowF_keeps l (r.put c) (letter_col hz h)
    · rw [rowF_stop hz]
      exact ⟨h, rfl⟩
theorem brk_row {r : Rd} (h : r.brk = 0) (hr : r.row ≤ 3) : r.next.row ≤ 3 := by
  unfold Rd.brk at h
  split at h
  · cases h
  · rename_i h1
    simp only [Rd.next]
    omega
theorem sp_yes {xs : List ByteArray} {S : Spots} (h : readFrom 0 rd0 xs = some S) : layOk xs = true ∧ S = keysFrom 0 xs := by
  rw [readFrom_all] at h
  split at h
  · rename_i h1
    exact ⟨h1, (Option.some.inj h).symm⟩
  · cases h
theorem sp_no {xs : List ByteArray} (h : readFrom 0 rd0 xs = none) : layOk xs = false := by
  rw [readFrom_all] at h
  split at h
  · cases h
  · rename_i h1
    simpa using h1
end Go.Proofs.Yticggclpaalhgaa
