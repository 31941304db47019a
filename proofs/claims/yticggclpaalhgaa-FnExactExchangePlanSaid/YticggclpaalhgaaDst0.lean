/- DistanceOf: what the sums are, and the functions for one letter. -/
import Derived.Test.YticggclpaalhgaaBoA
import Derived.Test.YticggclpaalhgaaCmp
namespace Go.Proofs.Yticggclpaalhgaa
open Go.RowKit Go.ChangeMaps Go.MapKept
set_option linter.unusedVariables false
set_option linter.unusedSimpArgs false

def dstR (xs ys : List ByteArray) : Int × Int := if bothCode xs ys = 0 then (sumE ys (keysFrom 0 xs), 0) else (0, bothCode xs ys)
theorem key_in {xs : List ByteArray} (h : layOk xs = true) {e : UInt8 × Nat × Nat} (he : e ∈ keysFrom 0 xs) : e.2.1 ≤ 3 ∧ e.2.2 ≤ 11 := by
  obtain ⟨_, s, h1, h2⟩ := keysFrom_mem.1 he
  obtain ⟨h3, h4⟩ := layOk_iff.1 h
  have h5 := (rowOk6_iff.1 (h4.1 s (List.mem_of_getElem? h1))).1
  have h6 := (List.getElem?_eq_some_iff.1 h1).1
  have h7 := (List.getElem?_eq_some_iff.1 h2).1
  rw [size_len] at h7
  omega
theorem spot_in {xs : List ByteArray} (h : layOk xs = true) (b : UInt8) : ((look6 b (keysFrom 0 xs)).getD (0, 0)).1 ≤ 3 ∧ ((look6 b (keysFrom 0 xs)).getD (0, 0)).2 ≤ 11 := by
  cases hl : look6 b (keysFrom 0 xs) with
  | none => simp
  | some p => exact key_in h (look6_mem hl)
theorem absI_bd {n : Int} {k : Int} (h : -k ≤ n ∧ n ≤ k) : 0 ≤ absI n ∧ absI n ≤ k := by
  unfold absI
  split <;> omega
theorem absI_neg (n : Int) : absI (-n) = absI n := by
  unfold absI
  split <;> split <;> omega
theorem dist_bd {xs ys : List ByteArray} (h1 : layOk xs = true) (h2 : layOk ys = true) {e : UInt8 × Nat × Nat} (he : e ∈ keysFrom 0 xs) : 0 ≤ distE ys e ∧ distE ys e ≤ 14 := by
  obtain ⟨a, b⟩ := key_in h1 he
  obtain ⟨c, d⟩ := spot_in h2 e.1
  unfold distE
  have q1 := absI_bd (n := (((look6 e.1 (keysFrom 0 ys)).getD (0, 0)).1 : Int) - e.2.1) (k := 3) (by omega)
  have q2 := absI_bd (n := (((look6 e.1 (keysFrom 0 ys)).getD (0, 0)).2 : Int) - e.2.2) (k := 11) (by omega)
  omega
theorem sum_bd {ys : List ByteArray} : ∀ {S : Spots}, (∀ e ∈ S, 0 ≤ distE ys e ∧ distE ys e ≤ 14) → 0 ≤ sumE ys S ∧ sumE ys S ≤ 14 * (S.length : Int)
  | [], _ => by simp [sumE]
  | e :: S, h => by
    have h1 := h e (by simp)
    have h2 := sum_bd (S := S) fun x hx => h x (List.mem_cons_of_mem _ hx)
    simp only [sumE, List.length_cons]
    omega
theorem keys_len : ∀ (l : List ByteArray) (i : Nat), (∀ s ∈ l, s.size ≤ 12) → (keysFrom i l).length ≤ 12 * l.length
  | [], _, _ => by simp [keysFrom]
  | s :: l, i, h => by
    have h1 := h s (by simp)
    have h2 := keys_len l (i + 1) fun x hx => h x (List.mem_cons_of_mem _ hx)
    simp only [keysFrom, List.length_append, rowKeys_length, size_len, List.length_cons]
    omega
theorem keys_len48 {xs : List ByteArray} (h : layOk xs = true) : (keysFrom 0 xs).length ≤ 48 := by
  obtain ⟨h3, h4⟩ := layOk_iff.1 h
  have := keys_len xs 0 fun s hs => (rowOk6_iff.1 (h4.1 s hs)).1.2
  omega
/-- Up to column c of row r. -/
def keysTo (xs : List ByteArray) (r c : Nat) (s : ByteArray) : Spots := keysFrom 0 (xs.take r) ++ rowKeys r 0 (s.data.toList.take c)
theorem keysTo_next {xs : List ByteArray} {r c : Nat} {s : ByteArray} (hc : c < s.size) : keysTo xs r (c + 1) s = keysTo xs r c s ++ [(s[c]'hc, r, c)] := by
  have hat := bytes_at s hc
  obtain ⟨h1, h2⟩ := List.getElem?_eq_some_iff.1 hat
  unfold keysTo
  rw [List.take_succ_eq_append_getElem h1, rowKeys_append, h2, List.append_assoc]
  simp only [rowKeys, List.length_take, Nat.zero_add]
  rw [Nat.min_eq_left (by omega)]
theorem keysTo_row {xs : List ByteArray} {r : Nat} {s : ByteArray} (h : xs[r]? = some s) : keysTo xs r s.size s = keysFrom 0 (xs.take (r + 1)) := by
  obtain ⟨h1, h2⟩ := List.getElem?_eq_some_iff.1 h
  unfold keysTo
  have e1 : s.data.toList.take s.size = s.data.toList := List.take_of_length_le (by rw [size_len]; exact Nat.le_refl _)
  rw [List.take_succ_eq_append_getElem h1, keysFrom_append, e1, h2]
  simp only [keysFrom, List.length_take, Nat.zero_add, List.append_nil]
  rw [Nat.min_eq_left (by omega)]
theorem keysTo_zero {xs : List ByteArray} {r : Nat} {s : ByteArray} : keysTo xs r 0 s = keysFrom 0 (xs.take r) := by simp [keysTo, rowKeys]
theorem keysTo_sub {xs : List ByteArray} {r c : Nat} {s : ByteArray} (h : xs[r]? = some s) {e : UInt8 × Nat × Nat} (he : e ∈ keysTo xs r c s) : e ∈ keysFrom 0 xs := by
  obtain ⟨h1, h2⟩ := List.getElem?_eq_some_iff.1 h
  rcases List.mem_append.1 he with h3 | h3
  · obtain ⟨a, t, b, d⟩ := keysFrom_mem.1 h3
    rw [List.getElem?_take] at b
    split at b
    · exact keysFrom_mem.2 ⟨a, t, b, d⟩
    · cases b
  · obtain ⟨a, b, d⟩ := rowKeys_mem.1 h3
    rw [List.getElem?_take] at d
    split at d
    · refine keysFrom_mem.2 ⟨Nat.zero_le _, s, ?_, by simpa using d⟩
      rw [a]
      simpa using h
    · cases d
theorem keysTo_len {xs : List ByteArray} {r c : Nat} {s : ByteArray} (h1 : layOk xs = true) (h : xs[r]? = some s) (hc : c ≤ s.size) : (keysTo xs r c s).length ≤ 48 := by
  obtain ⟨h3, h4⟩ := layOk_iff.1 h1
  have ht : ∀ t ∈ xs, t.size ≤ 12 := fun t ht => (rowOk6_iff.1 (h4.1 t ht)).1.2
  have h5 := ht s (List.mem_of_getElem? h)
  have h6 := keys_len (xs.take r) 0 fun t h => ht t (List.mem_of_mem_take h)
  have h7 := (List.getElem?_eq_some_iff.1 h).1
  unfold keysTo
  rw [List.length_append, rowKeys_length, List.length_take]
  rw [List.length_take] at h6
  omega
theorem sz_spec (n : Int) (v : Int) (hv : absI n = v) (hn : -1000 ≤ n ∧ n ≤ 1000) (w : World) : Calls Try.prog 70 #[.int .i64 n] w fun e w' => e = .returned (.int .i64 v) ∧ w = w' := by
  subst hv
  by_cases h0 : n < 0
  · have hr : Hid (absI n = -n) := Lib.hid (by simp [absI, h0])
    have g := decide_eq_true h0
    have hw : IntKind.i64.wrap (-n) = -n := IntWalk.i64_in _ (by omega)
    go_enter Try.func70, Try.ntmps70
    go_wp2
    go_ret
    exact ⟨by rw [hr.out]; rfl, rfl⟩
  · have hr : Hid (absI n = n) := Lib.hid (by simp [absI, h0])
    have g := decide_eq_false h0
    go_enter Try.func70, Try.ntmps70
    go_wp2
    go_ret
    exact ⟨by rw [hr.out]; rfl, rfl⟩
theorem dist_impl (a b c d : Nat) (ha : a ≤ 1000) (hb : b ≤ 1000) (hc : c ≤ 1000) (hd : d ≤ 1000) (w : World) : Calls Try.prog 71 #[.agg #[.int .i64 (a : Int), .int .i64 (b : Int)], .agg #[.int .i64 (c : Int), .int .i64 (d : Int)]] w fun e w' => e = .returned (.int .i64 (absI ((c : Int) - a) + absI ((d : Int) - b))) ∧ Below w.heap.size w w' := by
  have w1 : IntKind.i64.wrap ((a : Int) - c) = (a : Int) - c := IntWalk.i64_in _ (by omega)
  have w2 : IntKind.i64.wrap ((b : Int) - d) = (b : Int) - d := IntWalk.i64_in _ (by omega)
  have w3 : IntKind.i64.wrap (-((a : Int) - c)) = -((a : Int) - c) := IntWalk.i64_in _ (by omega)
  have w4 : IntKind.i64.wrap (-((b : Int) - d)) = -((b : Int) - d) := IntWalk.i64_in _ (by omega)
  go_enter Try.func71, Try.ntmps71
  go_wp2_with fail
  go_quiet (fail)
  go_wp2
  all_goals (go_ret; exact ⟨ret_c (by unfold absI; split <;> split <;> omega), below_drewN (below_a2 _ _ _) _⟩)

set_option maxRecDepth 100000 in
set_option maxHeartbeats 3200000 in
theorem dst_spec (A : Option Addr) (n c : Nat) (xs : List ByteArray) (B : Option Addr) (m d : Nat) (ys : List ByteArray) (w : World) (h : Strs w A n xs) (hn : n ≤ 1048576) (hs : ∀ s ∈ xs, s.size ≤ 1048576) (h' : Strs w B m ys) (hm : m ≤ 1048576) (hs' : ∀ s ∈ ys, s.size ≤ 1048576) :
    Calls Try.prog 35 #[.agg #[.slice A n c], .agg #[.slice B m d]] w fun e w' => e = .returned (.tuple #[.int .i64 (dstR xs ys).1, .int .i64 (dstR xs ys).2]) ∧ Below w.heap.size w w' := by
  have hb0 := Lib.hid (below_a2 w (.cells #[.slice A n c] 27) (.cells #[.slice B m d] 27))
  have k0 : ((w.alloc (.cells #[.slice A n c] 27)).alloc (.cells #[.slice B m d] 27)).cell? ⟨w.heap.size, 0, none⟩ = some (.slice A n c) := cell_on (cell_new rfl rfl) _
  have k1 : ((w.alloc (.cells #[.slice A n c] 27)).alloc (.cells #[.slice B m d] 27)).cell? ⟨w.heap.size + 1, 0, none⟩ = some (.slice B m d) := cell_new (by simp) rfl
  have hX := h.below hb0.out
  have hY := h'.below hb0.out
  have hlx := Lib.hid h.1
  have hq := Lib.hid (both_spec w.heap.size (w.heap.size + 1) A n c xs B m d ys _ k0 k1 hX hn hs hY hm hs')
  have hcall := Lib.hid (fun z W (hW : Strs W B m ys) => at_spec B m d ys z W hW hm hs' _ rfl)
  by_cases hz : bothCode xs ys = 0
  · obtain ⟨⟨o1, o2⟩, o3, o4⟩ := bothCode_0 hz
    have hres : Hid (dstR xs ys = (sumE ys (keysFrom 0 xs), 0)) := Lib.hid (by simp [dstR, hz])
    rw [hz] at hq
    have hfind : Hid (∀ (r : Nat) (s : ByteArray) (c : Nat) (x : UInt8), xs[r]? = some s → s.data.toList[c]? = some x → ∃ p, look6 x (keysFrom 0 ys) = some p) := Lib.hid fun r s c x h1 h2 => by
      have := allIn_iff.1 o4 x (List.mem_map_of_mem (f := (·.1)) (keysFrom_mem.2 ⟨Nat.zero_le _, s, h1, h2⟩ : ((x, r, c) : UInt8 × Nat × Nat) ∈ keysFrom 0 xs))
      exact Option.isSome_iff_exists.1 (look6_some.2 this)
    have hbd : Hid (∀ (r c : Nat) (s : ByteArray), xs[r]? = some s → c ≤ s.size → 0 ≤ sumE ys (keysTo xs r c s) ∧ sumE ys (keysTo xs r c s) ≤ 672) := Lib.hid fun r c s h1 h2 => by
      have q1 := sum_bd (ys := ys) (S := keysTo xs r c s) fun e he => dist_bd o1 o2 (keysTo_sub h1 he)
      have q2 := keysTo_len o1 h1 h2
      omega
    have hkin : Hid (∀ (r c : Nat) (s : ByteArray) (x : UInt8), xs[r]? = some s → s.data.toList[c]? = some x → (r ≤ 3 ∧ c ≤ 11) ∧ ((look6 x (keysFrom 0 ys)).getD (0, 0)).1 ≤ 3 ∧ ((look6 x (keysFrom 0 ys)).getD (0, 0)).2 ≤ 11) := Lib.hid fun r c s x h1 h2 => ⟨key_in o1 (keysFrom_mem.2 ⟨Nat.zero_le _, s, h1, h2⟩ : ((x, r, c) : UInt8 × Nat × Nat) ∈ keysFrom 0 xs), spot_in o2 x⟩
    replace hs := Lib.hid hs
    clear hz o1 o2 o3 o4
    go_enter Try.func35, Try.ntmps35
    go_wp2_with fail
    refine hq.out.mono ?_
    rintro e w1 ⟨rfl, hb1⟩
    have hbw := Lib.hid (hb0.out.step hb1)
    replace k0 := cell_step k0 hb1
    replace k1 := cell_step k1 hb1
    replace hX := hX.below hb1
    replace hY := hY.below hb1
    clear hb1
    go_wp2
    go_loopw [7, 8, 9, 10, 11] (fun v i _ _ _ wr => ∃ r : Nat, r ≤ n ∧ i = .int .i64 r ∧ v = .int .i64 (sumE ys (keysFrom 0 (xs.take r))) ∧ Below w1.heap.size w1 wr) (fun _ i _ _ _ _ => n - (intOf i).toNat)
    case atStart => exact ⟨0, by omega, rfl, rfl, Below.refl _ _⟩
    case round =>
      obtain ⟨r, hr, rfl, rfl, hbr⟩ := hrel
      have p0 := cell_step k0 hbr
      by_cases hlt : r < n
      · obtain ⟨b, off, s, rfl, hb, hx, c0⟩ := str_at (hX.below hbr) hlt
        have hssz : s.size ≤ 1048576 := hs.out s (List.mem_of_getElem? hx.out)
        have hr0 : (0 : Int) ≤ (r : Int) := Int.natCast_nonneg _
        have hr1 : (r : Int) < (n : Int) := by omega
        have hz0 := Lib.hid (keysTo_zero (xs := xs) (r := r) (s := s))
        rw [← hz0.out]
        rename World => wa
        go_wp2
        go_loopw [7, 9, 10, 11] (fun v j _ _ wq => ∃ c' : Nat, c' ≤ s.size ∧ j = .int .i64 c' ∧ v = .int .i64 (sumE ys (keysTo xs r c' s)) ∧ Below w1.heap.size w1 wq) (fun _ j _ _ _ => s.size - (intOf j).toNat)
        case atStart => exact ⟨0, by omega, rfl, rfl, hbr⟩
        case round =>
          rename World => wq
          obtain ⟨c', hc', rfl, rfl, hbq⟩ := hrel
          have r0 := cell_step k0 hbq
          have r1 := cell_step k1 hbq
          obtain ⟨_, _, s', e', _, hx2, c2⟩ := str_at (hX.below hbq) hlt
          cases e'
          obtain rfl : s' = s := by have h1 := hx2.out; rw [hx.out] at h1; exact (Option.some.inj h1).symm
          have hYq := Lib.hid (hY.below hbq)
          clear hx2 p0 c0
          by_cases hlt2 : c' < s'.size
          · have hc0 : (0 : Int) ≤ (c' : Int) := Int.natCast_nonneg _
            have hc1 : (c' : Int) < (s'.size : Int) := by omega
            have hat := Lib.hid (bytes_at s' hlt2)
            obtain ⟨p, hp⟩ := hfind.out r s' c' _ hx.out hat.out
            obtain ⟨⟨i1, i2⟩, i3, i4⟩ := hkin.out r c' s' _ hx.out hat.out
            rw [hp] at i3 i4
            simp only [Option.getD_some] at i3 i4
            obtain ⟨b1, b2⟩ := hbd.out r c' s' hx.out hc'
            have hcl := Lib.hid (hcall.out (s'[c']'hlt2))
            rw [hp] at hcl
            simp only [atI] at hcl
            have hnx : Hid (sumE ys (keysTo xs r (c' + 1) s') = sumE ys (keysTo xs r c' s') + (absI ((p.1 : Int) - r) + absI ((p.2 : Int) - c'))) := Lib.hid (by
              rw [keysTo_next hlt2, sumE_append]
              simp [sumE, distE, hp])
            have z1 := Lib.hid (fun W => sz_spec ((p.1 : Int) - r) _ rfl (by omega) W)
            have z2 := Lib.hid (fun W => sz_spec ((p.2 : Int) - c') _ rfl (by omega) W)
            obtain ⟨y1, y2⟩ := absI_bd (n := (p.1 : Int) - r) (k := 1000) (by omega)
            obtain ⟨y3, y4⟩ := absI_bd (n := (p.2 : Int) - c') (k := 1000) (by omega)
            have v1 : IntKind.i64.wrap ((p.1 : Int) - r) = (p.1 : Int) - r := IntWalk.i64_in _ (by omega)
            have v2 : IntKind.i64.wrap ((p.2 : Int) - c') = (p.2 : Int) - c' := IntWalk.i64_in _ (by omega)
            generalize absI ((p.1 : Int) - r) = u1 at *
            generalize absI ((p.2 : Int) - c') = u2 at *
            generalize sumE ys (keysTo xs r c' s') = S at *
            clear hp hat
            go_wp2_with fail
            go_quiet ((go_at_call 57; refine quiet_l (hcl.out _ ?_); exact hYq.out.drewN _))
            go_wp2_with fail
            refine (z1.out _).mono ?_
            rintro e w5 ⟨rfl, rfl⟩
            go_wp2_with fail
            refine (z2.out _).mono ?_
            rintro e w6 ⟨rfl, rfl⟩
            go_wp2
            go_roundw
            case rel => exact ⟨c' + 1, by omega, by go_num, by rw [hnx.out], below_drewN hbq _⟩
            case measure => simp [intOf]; omega
          · obtain rfl : c' = s'.size := by omega
            have hrow := Lib.hid (keysTo_row hx.out)
            rw [hrow.out]
            go_wp2
            go_roundw
            case rel => exact ⟨r + 1, by omega, by go_num, rfl, hbq⟩
            case measure => simp [intOf]; omega
      · obtain rfl : r = n := by omega
        have hfin : Hid (sumE ys (keysFrom 0 (xs.take r)) = sumE ys (keysFrom 0 xs)) := Lib.hid (by rw [List.take_of_length_le (by rw [hlx.out]; exact Nat.le_refl _)])
        go_wp2
        go_ret2
        exact ⟨by rw [hres.out, ← hfin.out]; rfl, hbw.out.step hbr⟩
  · have hres : Hid (dstR xs ys = (0, bothCode xs ys)) := Lib.hid (by simp [dstR, hz])
    generalize bothCode xs ys = code at *
    have g0 : (code == 0) = false := beq_eq_false_iff_ne.2 hz
    have g1 : (code != 0) = true := by simp [hz]
    clear hz
    go_enter Try.func35, Try.ntmps35
    go_wp2_with fail
    refine hq.out.mono ?_
    rintro e w1 ⟨rfl, hb1⟩
    have hbw := Lib.hid (hb0.out.step hb1)
    go_wp2
    go_ret2
    exact ⟨by rw [hres.out]; rfl, hbw.out⟩
end Go.Proofs.Yticggclpaalhgaa
