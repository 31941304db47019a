/- Moves of the carriage: the model's StartsOf. -/
import Derived.Test.YtcmmcgjpaabnoaaTm4
import Derived.Test.YtcmmcgjpaabnoaaTab2
namespace Go.Proofs.Ytcmmcgjpaabnoaa
open Go.RowKit Go.ChangeShapes Go.WideShapes Go.Deep
set_option linter.unusedVariables false
set_option linter.unusedSimpArgs false

/-- Does a word of the row begin at a column? -/
def startQ (s : ByteArray) (c : Nat) : Bool := decide (c < s.size) && (!decide ((bAt s c).toNat = 32) && (decide (c = 0) || decide ((bAt s (c - 1)).toNat = 32)))
/-- The columns below 30 of which something is true. -/
def colL (P : Nat → Bool) : List Int := ((List.range' 0 30).filter P).map (fun c : Nat => (c : Int))
theorem put_front {m : Int} : ∀ {xs : List Int}, (∀ x ∈ xs, m < x) → put8 m false xs = m :: xs
  | [], _ => by simp [put8]
  | x :: r, h => by
    have := h x (by simp)
    rw [put8, if_pos ⟨rfl, by omega⟩, if_pos this, put8_true]
theorem put_range {P : Nat → Bool} {i : Nat} : ∀ (m a : Nat), a ≤ i → i < a + m → put8 (i : Int) false (((List.range' a m).filter P).map (fun c : Nat => (c : Int))) = ((List.range' a m).filter (fun c => P c || decide (c = i))).map (fun c : Nat => (c : Int))
  | 0, a, h1, h2 => by omega
  | m + 1, a, h1, h2 => by
    have hgt : ∀ x ∈ ((List.range' (a + 1) m).filter P).map (fun c : Nat => (c : Int)), (a : Int) < x := fun x hx => by
      obtain ⟨c, hc, rfl⟩ := List.mem_map.1 hx
      have := (List.mem_range'_1.1 (List.mem_filter.1 hc).1).1
      omega
    rw [List.range'_succ]
    by_cases he : a = i
    · subst he
      have hcong : (List.range' (a + 1) m).filter (fun c => P c || decide (c = a)) = (List.range' (a + 1) m).filter P := List.filter_congr fun c hc => by
        have := (List.mem_range'_1.1 hc).1
        rw [decide_eq_false (by omega), Bool.or_false]
      rw [List.filter_cons_of_pos (p := fun c => P c || decide (c = a)) (by simp), hcong]
      cases hp : P a with
      | true =>
        rw [List.filter_cons_of_pos hp, List.map_cons, put8, if_pos ⟨rfl, Int.le_refl _⟩, if_neg (by omega), put8_true]
      | false =>
        rw [List.filter_cons_of_neg (by simp [hp]), List.map_cons, put_front hgt]
    · have ih := put_range (P := P) (i := i) m (a + 1) (by omega) (by omega)
      have hf : (P a || decide (a = i)) = P a := by rw [decide_eq_false he, Bool.or_false]
      cases hp : P a with
      | true =>
        rw [List.filter_cons_of_pos hp, List.filter_cons_of_pos (by rw [hf]; exact hp), List.map_cons, List.map_cons, put8, if_neg (by intro h; omega), ih]
      | false =>
        rw [List.filter_cons_of_neg (by simp [hp]), List.filter_cons_of_neg (by rw [hf]; simp [hp]), ih]
theorem put_col {P : Nat → Bool} {i : Nat} (h : i < 30) : put8 (i : Int) false (colL P) = colL (fun c => P c || decide (c = i)) := put_range 30 0 (by omega) (by omega)
theorem colL_congr {P Q : Nat → Bool} (h : ∀ c, c < 30 → P c = Q c) : colL P = colL Q := by
  unfold colL
  rw [List.filter_congr fun c hc => h c (by have := List.mem_range'_1.1 hc; omega)]
theorem colL_len (P : Nat → Bool) : (colL P).length ≤ 30 := by
  unfold colL
  rw [List.length_map]
  exact Nat.le_trans (List.length_filter_le _ _) (by simp)
def stR (rows : List ByteArray) : List Int × Int :=
  if 12 < rows.length then ([], 1) else if rows.all rowB = true then (colL (fun c => rows.any (fun s => startQ s c)), 0) else ([], 2)
/-- What is known behind r rows and i bytes of the next one. -/
def soFar (rows : List ByteArray) (r : Nat) (s : ByteArray) (i c : Nat) : Bool := (rows.take r).any (fun s => startQ s c) || (startQ s c && decide (c < i))
theorem soFar_zero {rows : List ByteArray} {r : Nat} {s : ByteArray} (c : Nat) : soFar rows r s 0 c = (rows.take r).any (fun s => startQ s c) := by simp [soFar]
theorem soFar_full {rows : List ByteArray} {r : Nat} {s : ByteArray} (h : rows[r]? = some s) (c : Nat) : soFar rows r s s.size c = (rows.take (r + 1)).any (fun s => startQ s c) := by
  rw [take8 h, List.any_append, soFar, List.any_cons, List.any_nil, Bool.or_false]
  congr 1
  by_cases hc : c < s.size
  · rw [decide_eq_true hc, Bool.and_true]
  · simp [startQ, hc]
theorem soFar_yes {rows : List ByteArray} {r : Nat} {s : ByteArray} {i c : Nat} (h : startQ s i = true) : (soFar rows r s i c || decide (c = i)) = soFar rows r s (i + 1) c := by
  unfold soFar
  by_cases hc : c = i
  · subst hc; simp [h]
  · rw [decide_eq_false hc, Bool.or_false]
    congr 2
    exact decide_eq_decide.2 (by omega)
theorem soFar_no {rows : List ByteArray} {r : Nat} {s : ByteArray} {i c : Nat} (h : startQ s i = false) : soFar rows r s i c = soFar rows r s (i + 1) c := by
  unfold soFar
  by_cases hc : c = i
  · subst hc; simp [h]
  · congr 2
    exact decide_eq_decide.2 (by omega)
set_option maxHeartbeats 1600000 in
theorem rows11 (A : Option Addr) (n c : Nat) (rs : List ByteArray) {v : Bool} (hv : rs.all rowB = v) (w : World) (h : Strs w A n rs) (hn : n ≤ 1048576) (hg : ∀ x ∈ rs, x.size ≤ maxLen) :
    Calls Try.prog 52 #[.slice A n c] w fun e w' => e = .returned (.bool v) ∧ w = w' := by
  have hl := Lib.hid h.1
  have hv0 := Lib.hid hv
  have hg0 := Lib.hid hg
  clear hv hg
  go_enter Try.func52, Try.ntmps52
  go_wp2
  go_loopw [3] (fun i wr => ∃ k : Nat, k ≤ n ∧ i = .int .i64 k ∧ w = wr ∧ (rs.drop k).all rowB = v) (fun i _ => n - (intOf i).toNat)
  case atStart => exact ⟨0, by omega, rfl, rfl, hv0.out⟩
  case round =>
    obtain ⟨k, hk, rfl, rfl, he⟩ := hrel
    by_cases hlt : k < n
    · obtain ⟨b, off, x, rfl, hb, hx, c0⟩ := str_at h hlt
      rw [all8_drop hx.out] at he
      have hk0 : (0 : Int) ≤ (k : Int) := Int.natCast_nonneg _
      have hk1 : (k : Int) < (n : Int) := by omega
      have hxs := hg0.out x (List.mem_of_getElem? hx.out)
      cases hp : rowB x with
      | false =>
        have hr : Hid (v = false) := Lib.hid (by rw [← he, hp, Bool.false_and])
        have hc := Lib.hid (fun W => row11 x hp W hxs)
        replace he := Lib.hid he
        clear hp
        go_wp2_with fail
        refine (hc.out _).mono ?_
        rintro e w1 ⟨rfl, rfl⟩
        go_wp2
        go_ret
        exact ⟨ret_bo hr.out.symm, rfl⟩
      | true =>
        have hnx : Hid ((rs.drop (k + 1)).all rowB = v) := Lib.hid (by rw [← he, hp, Bool.true_and])
        have hc := Lib.hid (fun W => row11 x hp W hxs)
        replace he := Lib.hid he
        clear hp
        go_wp2_with fail
        refine (hc.out _).mono ?_
        rintro e w1 ⟨rfl, rfl⟩
        go_wp2
        go_roundw
        case rel => exact ⟨k + 1, by omega, by go_num, (by first | trivial | rfl), hnx.out⟩
        case measure => simp [intOf]; omega
    · obtain rfl : k = n := by omega
      have gk : ¬ (k : Int) < (k : Int) := by omega
      have hr : Hid (true = v) := Lib.hid (by rw [← he, all8_end (by rw [hl.out]; omega)])
      replace he := Lib.hid he
      go_wp2
      go_ret
      exact ⟨ret_bo hr.out, rfl⟩
set_option maxRecDepth 100000 in
set_option maxHeartbeats 6400000 in
theorem st11_specC (A : Option Addr) (n c : Nat) (rs : List ByteArray) (w : World) (h : Strs w A n rs) (hn : n ≤ 1048576) (hg : ∀ x ∈ rs, x.size ≤ maxLen) :
    Calls Try.prog 33 #[.slice A n c] w (IOut (stR rs) w) := by
  have hl := Lib.hid h.1
  generalize hv : stR rs = res
  by_cases h12 : 12 < n
  · have hbad : Hid (res = ([], 1)) := Lib.hid (by rw [← hv, stR, if_pos (by rw [hl.out]; exact h12)])
    have g1 : decide ((12 : Int) < (n : Int)) = true := decide_eq_true (by omega)
    have g2 : decide (12 < n) = true := decide_eq_true h12
    replace h12 := Lib.hid h12
    clear hv hg h
    go_enter Try.func33, Try.ntmps33
    go_wp2
    go_ret2
    exact IOut.bad hbad.out (Below.refl _ _)
  · have g1 : decide ((12 : Int) < (n : Int)) = false := decide_eq_false (by omega)
    have g2 : decide (12 < n) = false := decide_eq_false h12
    cases hp : rs.all rowB with
    | false =>
      have hbad : Hid (res = ([], 2)) := Lib.hid (by rw [← hv, stR, if_neg (by rw [hl.out]; exact h12), hp]; rfl)
      have hc := Lib.hid (fun W hW => rows11 A n c rs hp W hW hn hg)
      replace h12 := Lib.hid h12
      clear hv hg hp
      go_enter Try.func33, Try.ntmps33
      go_wp2_with fail
      refine (hc.out _ h).mono ?_
      rintro e w1 ⟨rfl, rfl⟩
      go_wp2
      go_ret2
      exact IOut.bad hbad.out (Below.refl _ _)
    | true =>
      have hgood : Hid (res = (colL (fun c => rs.any (fun s => startQ s c)), 0)) := Lib.hid (by rw [← hv, stR, if_neg (by rw [hl.out]; exact h12), if_pos hp])
      have hc := Lib.hid (fun W hW => rows11 A n c rs hp W hW hn hg)
      have hsz := Lib.hid (fun x (hx : x ∈ rs) => rowB_size (List.all_eq_true.1 hp x hx))
      replace h12 := Lib.hid h12
      clear hv hg hp
      go_enter Try.func33, Try.ntmps33
      go_wp2_with fail
      refine (hc.out _ h).mono ?_
      rintro e w1 ⟨rfl, rfl⟩
      have hst0 := owns_new8 w 2
      have hOst : Hid (OInts (w.alloc (.cells #[] 2)) w.heap.size (some ⟨w.heap.size, 0, none⟩) 0 []) := Lib.hid (by
        obtain ⟨A', c', e, hO⟩ := owns_i8 (l := []) rfl hst0
        cases e
        exact hO)
      clear hst0
      go_wp2
      go_loopw [4, 5, 6] (fun v i _ wr => ∃ (k : Nat) (B : Option Addr) (m d : Nat), k ≤ n ∧ i = .int .i64 (k : Int) ∧ v = .slice B m d ∧ Below w.heap.size w wr ∧ OInts wr w.heap.size B m (colL (fun c => (rs.take k).any (fun s => startQ s c)))) (fun _ i _ _ => n - (intOf i).toNat)
      case atStart => exact ⟨0, _, 0, 0, by omega, rfl, rfl, below_a1 _ _, by rw [show colL (fun c => (rs.take 0).any (fun s => startQ s c)) = [] by simp [colL]]; exact hOst.out⟩
      case round =>
        rename World => wr
        obtain ⟨k, B, m, d, hk, rfl, rfl, hbw, hO⟩ := hrel
        by_cases hlt : k < n
        · obtain ⟨b, off, x, rfl, hb, hx, c0⟩ := str_at (h.below hbw) hlt
          have hk0 : (0 : Int) ≤ (k : Int) := Int.natCast_nonneg _
          have hk1 : (k : Int) < (n : Int) := by omega
          have hxs := hsz.out x (List.mem_of_getElem? hx.out)
          have hO0 : Hid (OInts wr w.heap.size B m (colL (soFar rs k x 0))) := Lib.hid (by rw [colL_congr (Q := fun c => (rs.take k).any (fun s => startQ s c)) (fun c _ => soFar_zero c)]; exact hO)
          clear hO
          go_wp2
          go_loopw [4, 6] (fun v j wi => ∃ (i : Nat) (B : Option Addr) (m d : Nat), i ≤ x.size ∧ j = .int .i64 (i : Int) ∧ v = .slice B m d ∧ Below w.heap.size w wi ∧ OInts wi w.heap.size B m (colL (soFar rs k x i))) (fun _ j _ => x.size - (intOf j).toNat)
          case atStart => exact ⟨0, B, m, d, by omega, rfl, rfl, hbw, hO0.out⟩
          case round =>
            clear c0 hO0
            rename World => wi
            obtain ⟨i, B, m, d, hi, rfl, rfl, hbi, hOi⟩ := hrel
            have hwz := hbi.size
            obtain ⟨_, _, x', hAA, _, hx', c0⟩ := str_at (h.below hbi) hlt
            cases hAA
            obtain rfl : x = x' := Option.some.inj (hx.out.symm.trans hx'.out)
            clear hx'
            by_cases hli : i < x.size
            · have hi0 : (0 : Int) ≤ (i : Int) := Int.natCast_nonneg _
              have hi1 : (i : Int) < (x.size : Int) := by omega
              have hbi' := bAt_eq hli
              have hcl := colL_len (soFar rs k x i)
              by_cases h32 : (x[i]'hli).toNat = 32
              · have b1 : (((x[i]'hli).toNat : Int) == 32) = true := beq_iff_eq.2 (by omega)
                have b2 : (((x[i]'hli).toNat : Int) != 32) = false := by rw [bne, b1]; rfl
                have b3 : ((x[i]'hli).toNat == 32) = true := beq_iff_eq.2 h32
                have hno : startQ x i = false := by simp [startQ, hbi', h32]
                have hO2 : Hid (OInts wi w.heap.size B m (colL (soFar rs k x (i + 1)))) := Lib.hid (by rw [← colL_congr (fun c _ => soFar_no hno)]; exact hOi)
                replace h32 := Lib.hid h32
                replace hbi' := Lib.hid hbi'
                replace hno := Lib.hid hno
                clear hOi
                go_wp2
                go_roundw
                case rel => exact ⟨i + 1, B, m, d, by omega, by go_num, rfl, hbi, hO2.out⟩
                case measure => simp [intOf]; omega
              · have b1 : (((x[i]'hli).toNat : Int) == 32) = false := beq_eq_false_iff_ne.2 (by omega)
                have b2 : (((x[i]'hli).toNat : Int) != 32) = true := by rw [bne, b1]; rfl
                have b3 : ((x[i]'hli).toNat == 32) = false := beq_eq_false_iff_ne.2 h32
                have hm : m = (colL (soFar rs k x i)).length := hOi.1.symm
                have hwi : IntKind.i64.wrap (i : Int) = (i : Int) := IntWalk.i64_in _ (by omega)
                by_cases hi00 : i = 0
                · have z1 : ((i : Int) == 0) = true := beq_iff_eq.2 (by omega)
                  have z2 : (i == 0) = true := beq_iff_eq.2 hi00
                  have hyes : startQ x i = true := by rw [startQ, hbi', decide_eq_true hli, decide_eq_false h32, decide_eq_true hi00]; rfl
                  have hput := Lib.hid (put8_spec B m d _ (i : Int) wi hOi.srow (by omega))
                  rw [put_col (by omega), colL_congr (fun c _ => soFar_yes hyes)] at hput
                  replace h32 := Lib.hid h32
                  replace hbi' := Lib.hid hbi'
                  replace hyes := Lib.hid hyes
                  replace hi00 := Lib.hid hi00
                  clear hOi hm hcl
                  go_wp2_with fail
                  refine hput.out.mono ?_
                  rintro e w3 ⟨A', n', c', rfl, hO3, hb3⟩
                  have hO4 := Lib.hid (ORow.mono hO3 hwz)
                  have hbe := Lib.hid (below_step10 hbi hb3 hwz)
                  clear hO3 hb3 hput
                  go_wp2
                  go_roundw
                  case rel => exact ⟨i + 1, A', n', c', by omega, by go_num, rfl, hbe.out, hO4.out⟩
                  case measure => simp [intOf]; omega
                · have z1 : ((i : Int) == 0) = false := beq_eq_false_iff_ne.2 (by omega)
                  have z2 : (i == 0) = false := beq_eq_false_iff_ne.2 hi00
                  have hlp : i - 1 < x.size := by omega
                  have q0 : (0 : Int) ≤ (i : Int) - 1 := by omega
                  have q1 : (i : Int) - 1 < (x.size : Int) := by omega
                  have q2 : ((i : Int) - 1).toNat = i - 1 := by omega
                  have q3 : IntKind.i64.wrap ((i : Int) - 1) = (i : Int) - 1 := IntWalk.i64_in _ (by omega)
                  have hbp := bAt_eq hlp
                  by_cases hp32 : (x[i - 1]'hlp).toNat = 32
                  · have p1 : (((x[i - 1]'hlp).toNat : Int) == 32) = true := beq_iff_eq.2 (by omega)
                    have p3 : ((x[i - 1]'hlp).toNat == 32) = true := beq_iff_eq.2 hp32
                    have hyes : startQ x i = true := by rw [startQ, hbi', hbp, decide_eq_true hli, decide_eq_false h32, decide_eq_true hp32, Bool.or_true]; rfl
                    have hput := Lib.hid (put8_spec B m d _ (i : Int) wi hOi.srow (by omega))
                    rw [put_col (by omega), colL_congr (fun c _ => soFar_yes hyes)] at hput
                    replace h32 := Lib.hid h32
                    replace hp32 := Lib.hid hp32
                    replace hbi' := Lib.hid hbi'
                    replace hbp := Lib.hid hbp
                    replace hyes := Lib.hid hyes
                    replace hi00 := Lib.hid hi00
                    clear hOi hm hcl
                    go_wp2_with fail
                    refine hput.out.mono ?_
                    rintro e w3 ⟨A', n', c', rfl, hO3, hb3⟩
                    have hO4 := Lib.hid (ORow.mono hO3 hwz)
                    have hbe := Lib.hid (below_step10 hbi hb3 hwz)
                    clear hO3 hb3 hput
                    go_wp2
                    go_roundw
                    case rel => exact ⟨i + 1, A', n', c', by omega, by go_num, rfl, hbe.out, hO4.out⟩
                    case measure => simp [intOf]; omega
                  · have p1 : (((x[i - 1]'hlp).toNat : Int) == 32) = false := beq_eq_false_iff_ne.2 (by omega)
                    have p3 : ((x[i - 1]'hlp).toNat == 32) = false := beq_eq_false_iff_ne.2 hp32
                    have hno : startQ x i = false := by rw [startQ, hbi', hbp, decide_eq_false hi00, decide_eq_false hp32, Bool.or_false, Bool.and_false, Bool.and_false]
                    have hO2 : Hid (OInts wi w.heap.size B m (colL (soFar rs k x (i + 1)))) := Lib.hid (by rw [← colL_congr (fun c _ => soFar_no hno)]; exact hOi)
                    replace h32 := Lib.hid h32
                    replace hp32 := Lib.hid hp32
                    replace hbi' := Lib.hid hbi'
                    replace hbp := Lib.hid hbp
                    replace hno := Lib.hid hno
                    replace hi00 := Lib.hid hi00
                    clear hOi hm hcl
                    go_wp2
                    go_roundw
                    case rel => exact ⟨i + 1, B, m, d, by omega, by go_num, rfl, hbi, hO2.out⟩
                    case measure => simp [intOf]; omega
            · obtain rfl : i = x.size := by omega
              have gi : ¬ (x.size : Int) < (x.size : Int) := by omega
              have hO2 : Hid (OInts wi w.heap.size B m (colL (fun c => (rs.take (k + 1)).any (fun s => startQ s c)))) := Lib.hid (by rw [← colL_congr (fun c _ => soFar_full hx.out c)]; exact hOi)
              clear hOi
              go_wp2
              go_roundw
              case rel => exact ⟨k + 1, B, m, d, by omega, by go_num, rfl, hbi, hO2.out⟩
              case measure => simp [intOf]; omega
        · obtain rfl : k = n := by omega
          have gk : ¬ (k : Int) < (k : Int) := by omega
          rw [List.take_of_length_le (by rw [hl.out]; exact Nat.le_refl _)] at hO
          have hm : m = (colL (fun c => rs.any (fun s => startQ s c))).length := hO.1.symm
          have hcl := colL_len (fun c => rs.any (fun s => startQ s c))
          have hO2 := Lib.hid hO
          have hm2 : Hid (m ≤ 1048576) := Lib.hid (by omega)
          clear hO hm hcl
          go_wp2
          go_ret2
          exact ⟨B, m, d, by rw [hgood.out]; rfl, hm2.out, by rw [hgood.out]; exact hO2.out, hbw⟩
end Go.Proofs.Ytcmmcgjpaabnoaa
