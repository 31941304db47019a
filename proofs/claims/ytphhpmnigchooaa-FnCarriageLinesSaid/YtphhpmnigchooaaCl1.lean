/- The law on lines as one call: for every input it returns true. -/
import Derived.Test.YtphhpmnigchooaaDraw4f
import Derived.Test.YtphhpmnigchooaaCl0
import Derived.Test.YtphhpmnigchooaaLine1
import Derived.Test.YtphhpmnigchooaaCar4
import Derived.Test.YtphhpmnigchooaaOver2s
import Derived.Test.YtphhpmnigchooaaByteOpen
namespace Go.Proofs.Ytphhpmnigchooaa
open Go.RowKit
set_option linter.unusedVariables false
set_option linter.unusedSimpArgs false

theorem big_any (A : Option Addr) (n c : Nat) (w : World) (hn : n ≤ maxLen) (v : Bool) (hv : decide (4096 < n) = v) :
    Calls Try.prog 4 #[.slice A n c] w fun e w' => e = .returned (.bool v) ∧ w = w' := by
  unfold maxLen at hn
  have hr : Hid (v = decide ((4096 : Int) < (n : Int))) := Lib.hid (by rw [← hv]; apply decide_eq_decide.2; omega)
  clear hv
  go_enter Try.func4, Try.ntmps4
  go_wp2
  go_ret
  exact ⟨ret_bo hr.out.symm, rfl⟩
theorem line_byte {s : ByteArray} {k : Nat} (hk : k < s.size) : s.data.toList[k]? = some (s[k]'hk) := by
  have hk' : k < s.data.size := hk
  rw [Array.getElem?_toList, Array.getElem?_eq_getElem hk']
  rfl
set_option maxRecDepth 100000 in
/-- Two equal lists of numbers. -/
theorem ints_any (A B : Option Addr) (n c d : Nat) (xs : List Int) (w : World) (hA : Ints w A n xs) (hB : Ints w B n xs) (hn : n ≤ 1048576) :
    Calls Try.prog 13 #[.slice A n c, .slice B n d] w fun e w' => e = .returned (.bool true) ∧ Below w.heap.size w w' := by
  go_enter Try.func13, Try.ntmps13
  go_wp2
  go_loopw [5] (fun kv wr => ∃ k : Nat, k ≤ n ∧ kv = .int .i64 (k : Int) ∧ Below w.heap.size w wr) (fun kv _ => n - (intOf kv).toNat)
  case atStart => exact ⟨0, by omega, rfl, Below.refl _ _⟩
  case round =>
    rename World => wr
    obtain ⟨k, hk, rfl, hbw⟩ := hrel
    by_cases hlt : k < n
    · obtain ⟨a1, o1, x, rfl, ha1, hx, x0⟩ := int_at (SRow.below hA hbw) hlt
      obtain ⟨a2, o2, y, rfl, ha2, hy, y0⟩ := int_at (SRow.below hB hbw) hlt
      obtain rfl : x = y := Option.some.inj (hx.out.symm.trans hy.out)
      have hk0 : (0 : Int) ≤ (k : Int) := Int.natCast_nonneg _
      have hk1 : (k : Int) < (n : Int) := by omega
      have gk : decide ((k : Int) < (n : Int)) = true := decide_eq_true hk1
      go_wp2_with fail
      go_quiet (fail)
      go_wp2
      go_roundw
      case rel => exact ⟨k + 1, by omega, by go_num, below_drewN hbw _⟩
      case measure => simp [intOf]; omega
    · obtain rfl : k = n := by omega
      have gk : decide ((k : Int) < (k : Int)) = false := decide_eq_false (by omega)
      go_wp2
      go_ret
      exact ⟨rfl, hbw⟩

/-! Plain data. -/
theorem go_len {c : CarriageD} (hc : 0 ≤ c.left) : ∀ {l : List StruckD} {acc : List UInt8}, (∀ s ∈ l, s.place ≤ 300) → acc.length ≤ 151 → (lineGo c acc l).1.length ≤ 151
  | [], acc, _, h => by rw [lineGo]; exact h
  | s :: l, acc, hp, h => by
    rw [lineGo]
    split
    · exact Nat.zero_le _
    · rename_i hok
      split
      · exact Nat.zero_le _
      · refine go_len hc (fun t ht => hp t (List.mem_cons_of_mem _ ht)) ?_
        rw [List.length_set, pad_length]
        have := (even_idx hok).2 (hp s (List.mem_cons_self ..)) hc
        omega
theorem line_size (c : CarriageD) (l : List StruckD) : (lineR c l).1.size ≤ 151 := by
  unfold lineR
  split
  · rename_i h
    have h0 := (carOk_iff.1 h.1).1.1
    have hlo := h.2
    unfold lineOk at hlo
    rw [Bool.and_eq_true, List.all_eq_true] at hlo
    have hp : ∀ s ∈ l, s.place ≤ 300 := fun s hs => by
      have h := hlo.1 s hs
      unfold struckOk at h
      rw [Bool.and_eq_true, isIn_iff] at h
      exact h.1.2
    have := go_len h0 (acc := []) hp (Nat.zero_le _)
    show (lineGo c [] l).1.toArray.size ≤ 151
    simpa using this
  · exact Nat.zero_le _
theorem noBl_step {l : List UInt8} {k : Nat} {b : UInt8} (h : l[k]? = some b) : noBl (l.take (k + 1)) = noBl (l.take k) + (if b = 32 then 0 else 1) := by
  obtain ⟨h1, rfl⟩ := List.getElem?_eq_some_iff.1 h
  unfold noBl
  rw [List.take_succ_eq_append_getElem h1, List.countP_append]
  by_cases hb : l[k] = 32 <;> simp [hb]
theorem line_len (s : ByteArray) : s.data.toList.length = s.size := Array.length_toList
theorem noBl_le (l : List UInt8) : noBl l ≤ l.length := List.countP_le_length

set_option maxRecDepth 100000 in
set_option maxHeartbeats 8000000 in
theorem fnCarriageLines_any (A0 : Option Addr) (n0 c0 : Nat) (xs0 : List Int) (w : World) (h0 : n0 ≤ maxLen ∧ Bytes w A0 n0 xs0 ∧ ∀ x ∈ xs0, byteGood x) :
    Calls Try.prog 3 #[.slice A0 n0 c0] w fun e w' => e = .returned (.bool true) ∧ Below w.heap.size w w' := by
  obtain ⟨hm0, P0, hg0⟩ := h0
  cases hbv : decide (4096 < n0) with
  | true =>
    have hbig := Lib.hid (big_any A0 n0 c0 w hm0 true hbv)
    clear hbv
    go_enter Try.func3, Try.ntmps3
    go_wp2_with fail
    refine hbig.out.mono ?_
    rintro e w' ⟨rfl, rfl⟩
    go_wp2
    go_ret
    exact ⟨rfl, Below.refl _ _⟩
  | false =>
    have hbig := Lib.hid (big_any A0 n0 c0 w hm0 false hbv)
    clear hbv
    replace hg0 := Lib.hid hg0
    go_enter Try.func3, Try.ntmps3
    go_wp2_with fail
    refine hbig.out.mono ?_
    rintro e w' ⟨rfl, rfl⟩
    go_wp2_with fail
    refine (drawLine_any A0 n0 c0 xs0 w hm0 P0 hg0.out).mono ?_
    rintro e w1 ⟨c, Ay, ny, cy, ys, rfl, hcg, hny, hy, hyd, hb1⟩
    have hyg : Hid (∀ y ∈ ys, y.good) := Lib.hid fun y h => (hyd y h).str3.good
    have hyl : ys.length = ny := SRow_len hy
    have hC1 := CRow.new w1 c.left c.right c.bell
    have hba := below_a1 w1 (.cells #[.int .i64 c.left, .int .i64 c.right, .int .i64 c.bell] 25)
    have hd1 := hb1.step hba
    replace hy := hy.below hba
    clear hyd
    go_wp2_with fail
    have hP1 := hC1.lt
    generalize w1.alloc (.cells #[.int .i64 c.left, .int .i64 c.right, .int .i64 c.bell] 25) = w2 at *
    generalize w1.heap.size = P at *
    clear hba hb1 hbig
    obtain ⟨p0, p1, p2⟩ := hC1.cells
    have hC2 : CRow w2 P ⟨c.left, c.right, c.bell⟩ := hC1
    have hd2 := hd1
    clear hC1 hd1
    go_wp2_with fail
    refine (lineOf_impl c Ay ny cy ys w2 hcg hy (by omega) hyg.out).mono ?_
    rintro e w3 ⟨rfl, hb3⟩
    replace hy := hy.below hb3
    have hC3 := hC2.below hb3
    have hd3 := hd2.step hb3
    clear hb3 hC2 hd2 p0 p1 p2
    obtain ⟨p0, p1, p2⟩ := hC3.cells
    go_wp2_with fail
    refine (lineOf_spec c Ay ny cy ys w3 hcg hy (by omega) hyg.out).mono ?_
    rintro e w4 ⟨rfl, hb4⟩
    replace hy := hy.below hb4
    have hC4 := hC3.below hb4
    have hd4 := hd3.step hb4
    clear hb4 hC3 hd3 p0 p1 p2
    obtain ⟨p0, p1, p2⟩ := hC4.cells
    go_wp2_with fail
    refine (half_impl c Ay ny cy ys w4 hcg hy (by omega) hyg.out).mono ?_
    rintro e w5 ⟨rfl, hb5⟩
    replace hy := hy.below hb5
    have hC5 := hC4.below hb5
    have hd5 := hd4.step hb5
    clear hb5 hC4 hd4 p0 p1 p2
    obtain ⟨p0, p1, p2⟩ := hC5.cells
    go_wp2_with fail
    refine (half_spec c Ay ny cy ys w5 hcg hy (by omega) hyg.out).mono ?_
    rintro e w6 ⟨rfl, hb6⟩
    replace hy := hy.below hb6
    have hC6 := hC5.below hb6
    have hd6 := hd5.step hb6
    clear hb6 hC5 hd5 p0 p1 p2
    obtain ⟨p0, p1, p2⟩ := hC6.cells
    go_wp2_with fail
    refine (over_impl Ay ny cy ys w6 hy (by omega) hyg.out).mono ?_
    rintro e w7 ⟨Ao, no, co, rfl, hno, ho, hb7⟩
    have hlo : (overR ys).1.length = no := ho.1
    replace ho := ho.srow
    replace hy := hy.below hb7
    have hC7 := hC6.below hb7
    have hd7 := hd6.step hb7
    clear hb7 hC6 hd6 p0 p1 p2
    obtain ⟨p0, p1, p2⟩ := hC7.cells
    go_wp2_with fail
    refine (over_spec Ay ny cy ys w7 hy (by omega) hyg.out).mono ?_
    rintro e w8 ⟨Aq, nq, cq, rfl, hnq, hq, hb8⟩
    have hlq : (overR ys).1.length = nq := hq.1
    obtain rfl : no = nq := hlo.symm.trans hlq
    replace hq := hq.srow
    replace ho := ho.below hb8
    replace hy := hy.below hb8
    have hC8 := hC7.below hb8
    have hd8 := hd7.step hb8
    clear hb8 hC7 hd7 p0 p1 p2
    obtain ⟨p0, p1, p2⟩ := hC8.cells
    clear hlq hnq
    go_wp2_with fail
    refine (drawSame_any A0 n0 c0 xs0 w8 hm0 (P0.below hd8) hg0.out).mono ?_
    rintro e w9 ⟨Aa, na, ca, us, Ab, nb, cb, vs, rfl, hna, hnb, ha, hb, hag, hbg, hb9⟩
    replace hag : Hid (∀ y ∈ us, y.good) := Lib.hid fun y h => (hag y h).good
    replace hbg : Hid (∀ y ∈ vs, y.good) := Lib.hid fun y h => (hbg y h).good
    replace ho := ho.below hb9
    replace hq := hq.below hb9
    replace hy := hy.below hb9
    have hC9 := hC8.below hb9
    have hd9 := hd8.step hb9
    clear hb9 hC8 hd8 p0 p1 p2
    obtain ⟨p0, p1, p2⟩ := hC9.cells
    clear P0 hg0
    have hlaw := line_law (c := c) (l := ys)
    have hLs := line_size c ys
    have hints := Lib.hid (ints_any Ao Aq no co cq (overR ys).1 w9 ho hq hno)
    generalize (lineR c ys).1 = LN at *
    generalize (lineR c ys).2 = LC at *
    generalize (halfR c ys).1 = HV at *
    generalize (halfR c ys).2 = HC at *
    generalize (overR ys).1 = OL at *
    generalize (overR ys).2 = OC at *
    replace hlaw := Lib.hid hlaw
    clear ho hq
    go_wp2_with fail
    refine hints.out.mono ?_
    rintro e wa ⟨rfl, hba⟩
    go_wp2_with fail
    refine (same_impl Aa na ca us Ab nb cb vs wa (ha.below hba) (by omega) hag.out (hb.below hba) (by omega) hbg.out).mono ?_
    rintro e wb ⟨rfl, hbb⟩
    have hab := hba.step hbb
    go_wp2_with fail
    refine (same_spec Aa na ca us Ab nb cb vs wb (ha.below hab) (by omega) hag.out (hb.below hab) (by omega) hbg.out).mono ?_
    rintro e wc ⟨rfl, hbc⟩
    have hac := hab.step hbc
    have hdc := hd9.step hac
    replace hy := hy.below hac
    have hCc := hC9.below hac
    generalize eqStrucks us vs = EV at *
    clear hints ha hb hag hbg hba hbb hbc hab hac hd9 hC9 p0 p1 p2
    obtain ⟨p0, p1, p2⟩ := hCc.cells
    by_cases hLC : LC = 0
    · have gb : (LC != 0) = false := by rw [hLC]; rfl
      obtain ⟨t1, t2, t3, t4, t5⟩ := hlaw.out.1 hLC
      subst t2
      have hno0 : no = 0 := by rw [← hlo, t3]; rfl
      subst hno0
      have hcr := (carOk_iff.1 t1).1
      obtain ⟨v1, v2⟩ := hcr
      replace t5 := Lib.hid t5
      replace t4 := Lib.hid t4
      clear hLC t1 t3 hlaw
      have hbyte := Lib.hid (fun k (hk : k < LN.size) => line_byte hk)
      have hsz : LN.data.toList.length = LN.size := line_len LN
      go_wp2
      go_loop [19, 20] (fun lv iv => ∃ k : Nat, k ≤ LN.size ∧ iv = .int .i64 (k : Int) ∧ lv = .int .i64 ((noBl (LN.data.toList.take k) : Nat) : Int)) (fun _ iv => LN.size - (intOf iv).toNat)
      case atStart => exact ⟨0, by omega, rfl, rfl⟩
      case round =>
        obtain ⟨k, hk, rfl, rfl⟩ := hrel
        by_cases hlt : k < LN.size
        · have hk0 : (0 : Int) ≤ (k : Int) := Int.natCast_nonneg _
          have hk1 : (k : Int) < (LN.size : Int) := by omega
          have gk : decide ((k : Int) < (LN.size : Int)) = true := decide_eq_true hk1
          have hst := noBl_step (hbyte.out k hlt)
          have hle := noBl_le (LN.data.toList.take k)
          rw [List.length_take] at hle
          by_cases h32 : (LN[k]'hlt) = 32
          · rw [if_pos h32] at hst
            have e1 : (((LN[k]'hlt).toNat : Int) != 32) = false := by rw [h32]; rfl
            have e2 : ((LN[k]'hlt).toNat != 32) = false := by rw [h32]; rfl
            have e3 : ((LN[k]'hlt).toNat == 32) = true := by rw [h32]; rfl
            clear h32
            replace hst := Lib.hid hst
            go_wp2
            go_round
            case rel => exact ⟨k + 1, by omega, by go_num, by rw [hst.out]; rfl⟩
            case measure => simp [intOf]; omega
          · rw [if_neg h32] at hst
            have e3 : ((LN[k]'hlt).toNat == 32) = false := beq_eq_false_iff_ne.2 (fun h => h32 (UInt8.toNat_inj.1 (by simpa using h)))
            have e2 : ((LN[k]'hlt).toNat != 32) = true := bne_iff_ne.2 (fun h => h32 (UInt8.toNat_inj.1 (by simpa using h)))
            have e1 : (((LN[k]'hlt).toNat : Int) != 32) = true := bne_iff_ne.2 (fun h => h32 (UInt8.toNat_inj.1 (by simpa using (by omega : (LN[k]'hlt).toNat = 32))))
            clear h32
            replace hst := Lib.hid hst
            generalize noBl (LN.data.toList.take k) = m at *
            have hw1 : IntKind.i64.wrap ((m : Int) + 1) = ((m + 1 : Nat) : Int) := IntWalk.i64_in _ (by omega)
            go_wp2
            go_round
            case rel => exact ⟨k + 1, by omega, by go_num, by rw [hst.out]; go_num⟩
            case measure => simp [intOf]; omega
        · obtain rfl : k = LN.size := by omega
          have gk : decide ((LN.size : Int) < (LN.size : Int)) = false := decide_eq_false (by omega)
          have hfull : LN.data.toList.take LN.size = LN.data.toList := List.take_of_length_le (by omega)
          rw [hfull, t4.out]
          clear hfull
          go_wp2
          go_loopw [21] (fun kv wz => ∃ k : Nat, k ≤ ny ∧ kv = .int .i64 (k : Int) ∧ Below wc.heap.size wc wz) (fun kv _ => ny - (intOf kv).toNat)
          case atStart => exact ⟨0, by omega, rfl, Below.refl _ _⟩
          case round =>
            rename World => wz
            obtain ⟨k, hk, rfl, hbw⟩ := hrel
            have hdz := hdc.step hbw
            by_cases hlt : k < ny
            · obtain ⟨a1, o1, x, rfl, ha1, hx, x0, x1⟩ := struck_at (hy.below hbw) hlt
              obtain ⟨q1, q2, q3⟩ := t5.out x (List.mem_of_getElem? hx.out)
              have hid := (even_idx q1).1
              have hpl : (0 : Int) ≤ x.place - c.left := by
                rcases Int.lt_or_le x.place c.left with q | q
                · exact absurd (.inl q) q1
                · omega
              obtain ⟨z0, z1, z2⟩ := (hCc.below hbw).cells
              have hil : idxOf c x < LN.size := by rw [← hsz]; exact (List.getElem?_eq_some_iff.1 q3).1
              have hbe : (LN[idxOf c x]'hil) = (x.letter[0]'q2) := by
                have h1 := hbyte.out _ hil
                rw [q3] at h1
                have h2 := Option.some.inj h1
                rw [← h2, byte0, dif_pos q2]
              have hxg := (hyg.out x (List.mem_of_getElem? hx.out)).1
              have hcl : c.left ≤ 300 := v2
              generalize hgi : idxOf c x = m at *
              have hqe : (x.place - c.left) / 2 = (m : Int) := by rw [← hid, Int.tdiv_eq_ediv_of_nonneg (by omega)]
              have hw1 : IntKind.i64.wrap (x.place - c.left) = x.place - c.left := IntWalk.i64_in _ (by omega)
              have hw2 : IntKind.i64.wrap (m : Int) = (m : Int) := IntWalk.i64_in _ (by omega)
              have hm0 : (0 : Int) ≤ (m : Int) := Int.natCast_nonneg _
              have hm1 : (m : Int) < (LN.size : Int) := by omega
              have hm2 : decide ((m : Int) < 0) = false := decide_eq_false (by omega)
              have hm3 : decide ((LN.size : Int) ≤ (m : Int)) = false := decide_eq_false (by omega)
              have hx1 : (0 : Int) < (x.letter.size : Int) := by omega
              have e1 : ((LN[m]'hil).toNat != (x.letter[0]'q2).toNat) = false := by rw [hbe]; simp
              have e2 : (((LN[m]'hil).toNat : Int) != ((x.letter[0]'q2).toNat : Int)) = false := by rw [hbe]; simp
              have hk0 : (0 : Int) ≤ (k : Int) := Int.natCast_nonneg _
              have hk1 : (k : Int) < (ny : Int) := by omega
              have gk : decide ((k : Int) < (ny : Int)) = true := decide_eq_true hk1
              clear q1 q3 hgi
              go_wp2_with fail
              go_quiet (fail)
              go_wp2_with fail
              go_quiet (fail)
              go_wp2
              go_roundw
              case rel => exact ⟨k + 1, by omega, by go_num, below_drewN hbw _⟩
              case measure => simp [intOf]; omega
            · obtain rfl : k = ny := by omega
              have gk : decide ((k : Int) < (k : Int)) = false := decide_eq_false (by omega)
              go_wp2
              go_ret
              exact ⟨ret_bo (by simp), hdz⟩
    · have gb : (LC != 0) = true := bne_iff_ne.2 hLC
      have h3 := hlaw.out.2 hLC
      rw [hlo] at h3
      clear hlaw hLC
      rcases h3 with rfl | rfl | h3
      · go_wp2
        go_ret
        exact ⟨rfl, hdc⟩
      · go_wp2
        go_ret
        exact ⟨rfl, hdc⟩
      · have g3 : decide ((0 : Int) < (no : Int)) = true := decide_eq_true (by omega)
        go_wp2
        all_goals go_ret
        all_goals exact ⟨by first | rfl | exact ret_bo (by simp), hdc⟩
end Go.Proofs.Ytphhpmnigchooaa
