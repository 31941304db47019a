/- The program's spotsOf and ValidLayout. -/
import Derived.Test.YticggclpaalhgaaRdB
namespace Go.Proofs.Yticggclpaalhgaa
open Go.RowKit Go.ChangeMaps Go.MapKept
set_option linter.unusedVariables false
set_option linter.unusedSimpArgs false

theorem rd_start {w1 : World} {M : Nat} {t : TypeId} (hM : MapIs byteV w1 M (spotL6 [])) : RdAt (w1.alloc (.cells #[.int .i64 0, .int .i64 0, .map (some M)] t)) w1.heap.size M rd0 :=
  ⟨cell_new rfl rfl, cell_new rfl rfl, cell_new rfl rfl, fun o => frozen_new rfl, by have := hM.lt; omega, hM.below (B := w1.heap.size) (below_a1 _ _) hM.lt⟩
theorem only_cell {a b : Nat} {w w' : World} {p : Addr} {v : Value} (h : Only2 a b w w') (hp : w.cell? p = some v) (h1 : p.block ≠ a) (h2 : p.block ≠ b) : w'.cell? p = some v :=
  (World.cell?_of_block (h.block p.block (World.block_lt_of_cell? _ _ hp) h1 h2)).trans hp

set_option maxRecDepth 100000 in
set_option maxHeartbeats 1600000 in
theorem spotsOf_any (A : Option Addr) (n c : Nat) (xs : List ByteArray) (w : World) (h : Strs w A n xs) (hn : n ≤ 1048576) (hs : ∀ x ∈ xs, x.size ≤ 1048576) :
    Calls Try.prog 50 #[.agg #[.slice A n c]] w (SpOut xs w) := by
  have hl := Lib.hid h.1
  replace hs := Lib.hid hs
  have hb0 := Lib.hid (below_a1 w (.cells #[.slice A n c] 27))
  replace h := Lib.hid h
  go_enter Try.func50, Try.ntmps50
  go_wp2_with fail
  refine (newReader_any _).mono ?_
  rintro e w1 ⟨M, rfl, hM0, hM1, hb1⟩
  have hst := Lib.hid (rd_start (t := 63) hM1)
  have hbx := Lib.hid ((hb0.out.step hb1).step (below_a1 w1 (.cells #[.int .i64 0, .int .i64 0, .map (some M)] 63)))
  have hz1 := (hb0.out.step hb1).size
  have hc0 : (w1.alloc (.cells #[.int .i64 0, .int .i64 0, .map (some M)] 63)).cell? ⟨w.heap.size, 0, none⟩ = some (.slice A n c) := cell_on (cell_step (cell_new rfl rfl) hb1) _
  have hMlt := hM1.lt
  simp only [World.size_alloc] at hM0
  clear hM1 hb1
  have hR0 : Hid (w1.heap.size = w1.heap.size) := Lib.hid rfl
  go_wp2
  generalize hwa : w1.alloc (.cells #[.int .i64 0, .int .i64 0, .map (some M)] 63) = wa at *
  generalize hR : w1.heap.size = R at *
  clear hwa hR0
  have hst2 := Lib.hid (hst.out.lt)
  go_loopw [5, 6, 11] (fun _ _ i wr => ∃ (k : Nat) (rk : Rd), k ≤ n ∧ i = .int .i64 k ∧ readFrom 0 rd0 xs = readFrom k rk (xs.drop k) ∧ RdAt wr R M rk ∧ Only2 R M wa wr ∧ rk.col ≤ 12 ∧ rk.row ≤ 3) (fun _ _ i _ => n - (intOf i).toNat)
  case atStart => exact ⟨0, rd0, by omega, rfl, rfl, hst.out, Only2.of_below (Below.refl _ _), by simp [rd0], by simp [rd0]⟩
  case round =>
    obtain ⟨k, rk, hk, rfl, he, hRd, hO, hc, hrow⟩ := hrel
    replace he := Lib.hid he
    replace hRd := Lib.hid hRd
    replace hO := Lib.hid hO
    have hbw := Lib.hid (hO.out.below hbx.out (by have := hbx.out.size; omega) (by omega) (by omega))
    have hlr := hRd.out.lt
    by_cases hlt : k < n
    · obtain ⟨b, off, s, rfl, hb, hx, d0⟩ := str_at (h.out.below hbw.out) hlt
      have hsz : s.size ≤ 1048576 := hs.out s (List.mem_of_getElem? hx.out)
      have hk0 : (0 : Int) ≤ (k : Int) := Int.natCast_nonneg _
      have hd : Hid (xs.drop k = s :: xs.drop (k + 1)) := Lib.hid (by
        obtain ⟨h1, h2⟩ := List.getElem?_eq_some_iff.1 hx.out
        rw [List.drop_eq_getElem_cons h1, h2])
      rw [hd.out] at he
      clear hx hd
      cases k with
      | zero =>
        simp only [Nat.add_zero] at d0
        have hcall := Lib.hid (takeRow_any R M rk s wr hRd.out hc hsz)
        by_cases hz : (rk.rowF s.data.toList).1 = 0
        · have hnx : Hid (readFrom 0 rd0 xs = readFrom 1 (rk.rowF s.data.toList).2 (xs.drop 1)) := Lib.hid (he.out.trans (readFrom_row0 hz))
          obtain ⟨q1, q2⟩ := rowF_keeps s.data.toList rk hc
          rw [hz] at hcall
          generalize (rk.rowF s.data.toList).2 = r2 at *
          have q3 : r2.row ≤ 3 := by omega
          clear hz hs he
          go_wp2_with fail
          refine hcall.out.mono ?_
          rintro e w2 ⟨rfl, hR2, hO2⟩
          replace hR2 := Lib.hid hR2
          replace hO2 := Lib.hid (hO.out.trans hO2)
          go_wp2
          go_roundw
          case rel => exact ⟨1, r2, by omega, by go_num, hnx.out, hR2.out, hO2.out, q1, q3⟩
          case measure => simp [intOf]; omega
        · have hres : Hid (layOk xs = false) := Lib.hid (sp_no (he.out.trans (readFrom_row0_no hz)))
          generalize (rk.rowF s.data.toList).2 = r2 at *
          generalize (rk.rowF s.data.toList).1 = f at *
          have g0 : (!((f : Int) == 0)) = true := by simp; omega
          have g1 : ((f : Int) == 0) = false := beq_eq_false_iff_ne.2 (by omega)
          clear hz hs he
          go_wp2_with fail
          refine hcall.out.mono ?_
          rintro e w2 ⟨rfl, hR2, hO2⟩
          replace hO2 := Lib.hid ((hO.out.trans hO2).below hbx.out (by have := hbx.out.size; omega) (by omega) (by omega))
          go_wp2
          go_ret2
          exact .inr ⟨hres.out, rfl, hO2.out⟩
      | succ k =>
        have hcallB := Lib.hid (takeBreak_any R M rk wr hRd.out hrow)
        have gk : decide ((0 : Int) < ((k + 1 : Nat) : Int)) = true := decide_eq_true (by omega)
        by_cases hbz : rk.brk = 0
        · have hcall := Lib.hid (fun W (hW : RdAt W R M rk.next) => takeRow_any R M rk.next s W hW (by simp [Rd.next]) hsz)
          have hrow' := brk_row hbz hrow
          replace hcallB := Lib.hid (show Calls _ _ _ _ (RdOut R M 0 rk.next wr) by have := hcallB.out; rw [hbz, if_pos rfl] at this; exact this)
          by_cases hz : (rk.next.rowF s.data.toList).1 = 0
          · have hnx : Hid (readFrom 0 rd0 xs = readFrom (k + 1 + 1) (rk.next.rowF s.data.toList).2 (xs.drop (k + 1 + 1))) := Lib.hid (he.out.trans (readFrom_row hbz hz))
            obtain ⟨q1, q2⟩ := rowF_keeps s.data.toList rk.next (by simp [Rd.next])
            rw [hz] at hcall
            generalize (rk.next.rowF s.data.toList).2 = r2 at *
            have q3 : r2.row ≤ 3 := by omega
            clear hz hs he hbz
            go_wp2_with fail
            refine hcallB.out.mono ?_
            rintro e w2 ⟨rfl, hR2, hO2⟩
            replace hR2 := Lib.hid hR2
            replace hO2 := Lib.hid (hO.out.trans hO2)
            go_wp2_with fail
            refine (hcall.out _ hR2.out).mono ?_
            rintro e w3 ⟨rfl, hR3, hO3⟩
            replace hR3 := Lib.hid hR3
            replace hO3 := Lib.hid (hO2.out.trans hO3)
            go_wp2
            go_roundw
            case rel => exact ⟨k + 1 + 1, r2, by omega, by go_num, hnx.out, hR3.out, hO3.out, q1, q3⟩
            case measure => simp [intOf]; omega
          · have hres : Hid (layOk xs = false) := Lib.hid (sp_no (he.out.trans (readFrom_row_no hbz hz)))
            generalize (rk.next.rowF s.data.toList).2 = r2 at *
            generalize (rk.next.rowF s.data.toList).1 = f at *
            have g0 : (!((f : Int) == 0)) = true := by simp; omega
            have g1 : ((f : Int) == 0) = false := beq_eq_false_iff_ne.2 (by omega)
            clear hz hs he hbz
            go_wp2_with fail
            refine hcallB.out.mono ?_
            rintro e w2 ⟨rfl, hR2, hO2⟩
            replace hR2 := Lib.hid hR2
            replace hO2 := Lib.hid (hO.out.trans hO2)
            go_wp2_with fail
            refine (hcall.out _ hR2.out).mono ?_
            rintro e w3 ⟨rfl, hR3, hO3⟩
            replace hO3 := Lib.hid ((hO2.out.trans hO3).below hbx.out (by have := hbx.out.size; omega) (by omega) (by omega))
            go_wp2
            go_ret2
            exact .inr ⟨hres.out, rfl, hO3.out⟩
        · have hres : Hid (layOk xs = false) := Lib.hid (sp_no (he.out.trans (readFrom_brk_no hbz)))
          replace hcallB := Lib.hid (show Calls _ _ _ _ (RdOut R M rk.brk rk wr) by have := hcallB.out; rw [if_neg hbz] at this; exact this)
          generalize rk.brk = f at *
          have g0 : ((f : Int) != 0) = true := by simp; omega
          clear hs he hbz
          go_wp2_with fail
          refine hcallB.out.mono ?_
          rintro e w2 ⟨rfl, hR2, hO2⟩
          replace hO2 := Lib.hid ((hO.out.trans hO2).below hbx.out (by have := hbx.out.size; omega) (by omega) (by omega))
          go_wp2
          go_ret2
          exact .inr ⟨hres.out, rfl, hO2.out⟩
    · obtain rfl : k = n := by omega
      have hend := Lib.hid (fun W (hW : RdAt W R M rk) => takeEnd_any R M rk W hW)
      have hfin : Hid (readFrom 0 rd0 xs = if rk.stop = 0 then some rk.spots else none) := Lib.hid (by
        rw [he.out, List.drop_of_length_le (by rw [hl.out]; exact Nat.le_refl _)]
        cases k <;> rfl)
      clear he hs
      by_cases hz : rk.stop = 0
      · obtain ⟨k1, k2⟩ := sp_yes (hfin.out.trans (if_pos hz))
        have hres := Lib.hid k1
        have hsp := Lib.hid k2
        rw [hz] at hend
        have m2 := hRd.out.map
        clear hfin k1 k2 hz
        go_wp2_with fail
        refine (hend.out _ hRd.out).mono ?_
        rintro e w2 ⟨rfl, rfl⟩
        go_wp2
        go_ret2
        exact .inl ⟨hres.out, M, rfl, by omega, by rw [← hsp.out]; exact hRd.out.spots, hbw.out⟩
      · have hres := Lib.hid (sp_no (hfin.out.trans (if_neg hz)))
        generalize rk.stop = f at *
        have g0 : (!((f : Int) == 0)) = true := by simp; omega
        have g1 : ((f : Int) == 0) = false := beq_eq_false_iff_ne.2 (by omega)
        clear hfin hz
        go_wp2_with fail
        refine (hend.out _ hRd.out).mono ?_
        rintro e w2 ⟨rfl, rfl⟩
        go_wp2
        go_ret2
        exact .inr ⟨hres.out, rfl, hbw.out⟩
theorem valid_impl (A : Option Addr) (n c : Nat) (xs : List ByteArray) (w : World) (h : Strs w A n xs) (hn : n ≤ 1048576) (hs : ∀ x ∈ xs, x.size ≤ 1048576) :
    Calls Try.prog 17 #[.agg #[.slice A n c]] w fun e w' => e = .returned (.bool (layOk xs)) ∧ Below w.heap.size w w' := by
  have hb0 := Lib.hid (below_a1 w (.cells #[.slice A n c] 27))
  have hq := Lib.hid (fun W (hW : Strs W A n xs) => spotsOf_any A n c xs W hW hn hs)
  have hS := h.below hb0.out
  go_enter Try.func17, Try.ntmps17
  go_wp2_with fail
  refine (hq.out _ hS).mono ?_
  rintro e w1 (⟨h1, M, rfl, hM0, hM1, hb1⟩ | ⟨h1, rfl, hb1⟩)
  · have hbw := Lib.hid (hb0.out.step hb1)
    replace h1 := Lib.hid h1
    go_wp2
    go_ret
    exact ⟨by rw [h1.out]; rfl, hbw.out⟩
  · have hbw := Lib.hid (hb0.out.step hb1)
    replace h1 := Lib.hid h1
    go_wp2
    go_ret
    exact ⟨by rw [h1.out]; rfl, hbw.out⟩
end Go.Proofs.Yticggclpaalhgaa
