/- LayoutFault: the model's function and the program's. -/
import Derived.Test.YticggclpaalhgaaDoorRdB
import Derived.Test.YticggclpaalhgaaDoorSpA
import Derived.Test.YticggclpaalhgaaDoorRdC
namespace Go.Proofs.YticggclpaalhgaaDoor
open Go.RowKit Go.ChangeMaps Go.MapKept
set_option linter.unusedVariables false
set_option linter.unusedSimpArgs false

theorem takeByte_any (R M : Nat) (r : Rd) (c : UInt8) (w : World) (h : RdAt w R M r) (hcol : r.col ≤ 12) (hrow : r.row ≤ 3) :
    Calls Tryd.prog 18 #[.pointer (some ⟨R, 0, none⟩), .int .u8 (c.toNat : Int)] w (RdOut R M (r.byte c) (if r.byte c = 0 then r.putByte c else r) w) := by
  by_cases h47 : c.toNat = 47
  · have hq := Lib.hid (takeBreak_any R M r w h hrow)
    have e1 : r.byte c = r.brk := by simp [Rd.byte, h47]
    have e2 : r.putByte c = r.next := by simp [Rd.putByte, h47]
    rw [e1, e2]
    have g : ((c.toNat : Int) == 47) = true := by rw [h47]; rfl
    clear h47 e1 e2 h
    generalize r.brk = f at *
    generalize (if f = 0 then r.next else r) = r2 at *
    go_enter Tryd.func18, Tryd.ntmps18
    go_wp2_with fail
    refine hq.out.mono ?_
    rintro e w1 ⟨rfl, h1, h2⟩
    replace h1 := Lib.hid h1
    go_wp2
    go_ret
    exact ⟨rfl, h1.out, h2⟩
  · have hq := Lib.hid (takeLetter_any R M r c w h hcol)
    have e1 : r.byte c = r.letter c := by simp [Rd.byte, h47]
    have e2 : r.putByte c = r.put c := by simp [Rd.putByte, h47]
    rw [e1, e2]
    have g : ((c.toNat : Int) == 47) = false := beq_eq_false_iff_ne.2 (by omega)
    clear h47 e1 e2 h
    generalize r.letter c = f at *
    generalize (if f = 0 then r.put c else r) = r2 at *
    go_enter Tryd.func18, Tryd.ntmps18
    go_wp2_with fail
    refine hq.out.mono ?_
    rintro e w1 ⟨rfl, h1, h2⟩
    replace h1 := Lib.hid h1
    go_wp2
    go_ret
    exact ⟨rfl, h1.out, h2⟩
def faultI (s : ByteArray) : Int × Int := (((textFault rd0 0 s.data.toList).1 : Int), ((textFault rd0 0 s.data.toList).2 : Int))
theorem textFault_step {r : Rd} {i : Nat} {c : UInt8} {l : List UInt8} (h : r.byte c = 0) : textFault r i (c :: l) = textFault (r.putByte c) (i + 1) l := by simp only [textFault]; rw [if_pos h]
theorem textFault_stop {r : Rd} {i : Nat} {c : UInt8} {l : List UInt8} (h : ¬ r.byte c = 0) : textFault r i (c :: l) = (r.byte c, i) := by simp only [textFault]; rw [if_neg h]
theorem putByte_fits {r : Rd} {c : UInt8} (h : r.byte c = 0) (hc : r.col ≤ 12) (hr : r.row ≤ 3) : (r.putByte c).col ≤ 12 ∧ (r.putByte c).row ≤ 3 := by
  unfold Rd.byte at h
  unfold Rd.putByte
  split at h
  · rename_i h47
    rw [if_pos h47]
    exact ⟨by simp [Rd.next], brk_row h hr⟩
  · rename_i h47
    rw [if_neg h47]
    exact ⟨letter_col h hc, hr⟩
theorem ret_f {p : Nat × Nat} {a b : Nat} (h : p = (a, b)) : Ending.returned (.tuple #[.int .i64 (a : Int), .int .i64 (b : Int)]) = .returned (.tuple #[.int .i64 (p.1 : Int), .int .i64 (p.2 : Int)]) := by rw [h]
set_option maxHeartbeats 800000 in
theorem fault_impl (s : ByteArray) (w : World) (hs : s.size ≤ 1048576) :
    Calls Tryd.prog 11 #[.string s] w fun e w' => e = .returned (.tuple #[.int .i64 (faultI s).1, .int .i64 (faultI s).2]) ∧ Below w.heap.size w w' := by
  unfold faultI
  generalize hF : textFault rd0 0 s.data.toList = F
  replace hF := Lib.hid hF.symm
  go_enter Tryd.func11, Tryd.ntmps11
  go_wp2_with fail
  refine (newReader_any _).mono ?_
  rintro e w1 ⟨M, rfl, hM0, hM1, hb1⟩
  have hst := Lib.hid (rd_start (t := 40) hM1)
  have hbx := Lib.hid (hb1.step (below_a1 w1 (.cells #[.int .i64 0, .int .i64 0, .map (some M)] 40)))
  have hz1 := hb1.size
  have hMlt := hM1.lt
  clear hM1 hb1
  have hR0 : Hid (w1.heap.size = w1.heap.size) := Lib.hid rfl
  go_wp2
  generalize hwa : w1.alloc (.cells #[.int .i64 0, .int .i64 0, .map (some M)] 40) = wa at *
  generalize hR : w1.heap.size = R at *
  clear hwa hR0
  have hst2 := Lib.hid (hst.out.lt)
  go_loopw [5, 6, 11] (fun _ _ i wr => ∃ (k : Nat) (rk : Rd), k ≤ s.size ∧ i = .int .i64 k ∧ F = textFault rk k (s.data.toList.drop k) ∧ RdAt wr R M rk ∧ Only2 R M wa wr ∧ rk.col ≤ 12 ∧ rk.row ≤ 3) (fun _ _ i _ => s.size - (intOf i).toNat)
  case atStart => exact ⟨0, rd0, by omega, rfl, hF.out, hst.out, Only2.of_below (Below.refl _ _), by simp [rd0], by simp [rd0]⟩
  case round =>
    obtain ⟨k, rk, hk, rfl, he, hRd, hO, hc, hrow⟩ := hrel
    replace he := Lib.hid he
    replace hRd := Lib.hid hRd
    replace hO := Lib.hid hO
    clear hF
    have hbw := Lib.hid (hO.out.below hbx.out (by have := hbx.out.size; omega) (by omega) (by omega))
    by_cases hlt : k < s.size
    · have hd := Lib.hid (bytes_drop s hlt)
      rw [hd.out] at he
      have hcall := Lib.hid (takeByte_any R M rk (s[k]'hlt) wr hRd.out hc hrow)
      by_cases hz : rk.byte (s[k]'hlt) = 0
      · have hnx : Hid (F = textFault (rk.putByte (s[k]'hlt)) (k + 1) (s.data.toList.drop (k + 1))) := Lib.hid (he.out.trans (textFault_step hz))
        obtain ⟨q1, q2⟩ := putByte_fits hz hc hrow
        rw [hz, if_pos rfl] at hcall
        generalize rk.putByte (s[k]'hlt) = r2 at *
        clear hz hd he
        go_wp2_with fail
        refine hcall.out.mono ?_
        rintro e w2 ⟨rfl, hR2, hO2⟩
        replace hR2 := Lib.hid hR2
        replace hO2 := Lib.hid (hO.out.trans hO2)
        go_wp2
        go_roundw
        case rel => exact ⟨k + 1, r2, by omega, by go_num, hnx.out, hR2.out, hO2.out, q1, q2⟩
        case measure => simp [intOf]; omega
      · have hres : Hid (F = (rk.byte (s[k]'hlt), k)) := Lib.hid (he.out.trans (textFault_stop hz))
        rw [if_neg hz] at hcall
        generalize rk.byte (s[k]'hlt) = f at *
        have g0 : ((f : Int) != 0) = true := by simp; omega
        have g1 : ((f : Int) == 0) = false := beq_eq_false_iff_ne.2 (by omega)
        clear hz hd he
        go_wp2_with fail
        refine hcall.out.mono ?_
        rintro e w2 ⟨rfl, hR2, hO2⟩
        replace hO2 := Lib.hid ((hO.out.trans hO2).below hbx.out (by have := hbx.out.size; omega) (by omega) (by omega))
        go_wp2
        go_ret2
        exact ⟨ret_f hres.out, hO2.out⟩
    · obtain rfl : k = s.size := by omega
      have hend := Lib.hid (fun W (hW : RdAt W R M rk) => takeEnd_any R M rk W hW)
      have hfin : Hid (F = if rk.stop = 0 then (0, 0) else (rk.stop, s.size)) := Lib.hid (by
        rw [he.out, List.drop_of_length_le (by rw [size_len]; exact Nat.le_refl _)]
        rfl)
      clear he
      by_cases hz : rk.stop = 0
      · have hres : Hid (F = (0, 0)) := Lib.hid (hfin.out.trans (if_pos hz))
        rw [hz] at hend
        clear hfin hz
        go_wp2_with fail
        refine (hend.out _ hRd.out).mono ?_
        rintro e w2 ⟨rfl, rfl⟩
        go_wp2
        go_ret2
        exact ⟨ret_f hres.out, hbw.out⟩
      · have hres : Hid (F = (rk.stop, s.size)) := Lib.hid (hfin.out.trans (if_neg hz))
        generalize rk.stop = f at *
        have g0 : ((f : Int) != 0) = true := by simp; omega
        have g1 : ((f : Int) == 0) = false := beq_eq_false_iff_ne.2 (by omega)
        clear hfin hz
        go_wp2_with fail
        refine (hend.out _ hRd.out).mono ?_
        rintro e w2 ⟨rfl, rfl⟩
        go_wp2
        go_ret2
        exact ⟨ret_f hres.out, hbw.out⟩

/-- The bytes of the text that have come are just the letters of the reader, breaks aside. -/
def seenBy (r : Rd) (l : List UInt8) : Prop := ∀ b, b.toNat ≠ 47 → ((look6 b r.spots).isSome = true ↔ b ∈ l)
theorem seen_break {r : Rd} {l : List UInt8} {c : UInt8} (h : seenBy r l) (hc : c.toNat = 47) : seenBy r.next (l ++ [c]) := by
  intro b hb
  simp only [Rd.next, List.mem_append, List.mem_singleton]
  rw [h b hb]
  constructor
  · exact .inl
  · rintro (h1 | rfl)
    · exact h1
    · exact absurd hc hb
theorem seen_put {r : Rd} {l : List UInt8} {c : UInt8} (h : seenBy r l) : seenBy (r.put c) (l ++ [c]) := by
  intro b hb
  rw [look6_some]
  simp only [Rd.put, List.map_append, List.map_cons, List.map_nil, List.mem_append, List.mem_singleton]
  rw [← look6_some, h b hb]
theorem letter_is {r : Rd} {l : List UInt8} {c : UInt8} (h : seenBy r l) (h47 : c.toNat ≠ 47) :
    (isLet ⟨#[c]⟩ = false → r.letter c = 2) ∧ (isLet ⟨#[c]⟩ = true → (c ∈ l → r.letter c = 3) ∧ (c ∉ l → (r.col = 12 → r.letter c = 4) ∧ (r.col ≠ 12 → r.letter c = 0))) := by
  have hk : keyByte c = isLet ⟨#[c]⟩ := by rw [keyByte_let]; simp [h47]
  unfold Rd.letter
  rw [hk]
  refine ⟨fun h1 => by simp [h1], fun h1 => ⟨fun h2 => ?_, fun h2 => ?_⟩⟩
  · have := (h c h47).2 h2
    simp [h1, this]
  · have : ¬ (look6 c r.spots).isSome = true := fun h3 => h2 ((h c h47).1 h3)
    simp only [h1, Bool.true_eq_false, if_false, this]
    refine ⟨fun h3 => by simp [h3], fun h3 => by simp [h3]⟩
theorem take_byte (s : ByteArray) {k : Nat} (hk : k < s.size) : s.data.toList.take (k + 1) = s.data.toList.take k ++ [s[k]'hk] := by
  have := bytes_at s hk
  obtain ⟨h1, h2⟩ := List.getElem?_eq_some_iff.1 this
  rw [List.take_succ_eq_append_getElem h1, h2]
theorem mem_take {s : ByteArray} {k : Nat} {c : UInt8} (hk : k ≤ s.size) : c ∈ s.data.toList.take k ↔ ∃ (j : Nat) (hj : j < s.size), j < k ∧ s[j]'hj = c := by
  rw [List.mem_iff_getElem?]
  constructor
  · rintro ⟨j, hj⟩
    rw [List.getElem?_take] at hj
    split at hj
    · rename_i h1
      have h2 : j < s.size := by omega
      rw [bytes_at s h2] at hj
      exact ⟨j, h2, h1, Option.some.inj hj⟩
    · cases hj
  · rintro ⟨j, hj, h1, rfl⟩
    exact ⟨j, by rw [List.getElem?_take, if_pos h1]; exact bytes_at s hj⟩
end Go.Proofs.YticggclpaalhgaaDoor
