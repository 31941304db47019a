/- Numbers as they are written: the model's functions. -/
import Derived.Test.YtmgoidngecimbaaNum8
namespace Go.Proofs.Ytmgoidngecimbaa
open Go.RowKit Go.ChangeShapes Go.WideShapes Go.Deep
set_option linter.unusedVariables false
set_option linter.unusedSimpArgs false

theorem isEmpty8 (s : ByteArray) (h : 0 < s.size) : s.toList.isEmpty = false := by
  rw [ByteArray.toList_eq]
  cases hx : s.data.toList with
  | nil => have : s.data.toList.length = s.size := rfl; rw [hx] at this; simp at this; omega
  | cons a r => rfl
theorem nil8 (s : ByteArray) (h : 0 < s.size) : ¬ s.toList = [] := by
  have := isEmpty8 s h
  intro e
  rw [e] at this
  cases this
theorem size_zero8 (s : ByteArray) (h : s.size = 0) : s = ByteArray.empty := by
  apply ByteArray.ext
  apply Array.toList_inj.1
  have : s.data.toList.length = 0 := h
  rw [List.length_eq_zero_iff.1 this]
  rfl
theorem digit8 (c : Nat) {v : Bool} (hv : (decide (48 ≤ c) && decide (c ≤ 57)) = v) (w : World) : Calls Try.prog 77 #[.int .u8 (c : Int)] w fun e w' => e = .returned (.bool v) ∧ w = w' := by
  by_cases h1 : 48 ≤ c
  · have g1 : (48 : Int) ≤ (c : Int) := by omega
    by_cases h2 : c ≤ 57
    · have g2 : (c : Int) ≤ 57 := by omega
      have hr : Hid (v = true) := Lib.hid (by rw [← hv, decide_eq_true h1, decide_eq_true h2]; rfl)
      clear hv
      go_enter Try.func77, Try.ntmps77
      go_wp2
      go_ret
      exact ⟨by rw [hr.out]; rfl, rfl⟩
    · have g2 : ¬ (c : Int) ≤ 57 := by omega
      have hr : Hid (v = false) := Lib.hid (by rw [← hv, decide_eq_false h2, Bool.and_false])
      clear hv
      go_enter Try.func77, Try.ntmps77
      go_wp2
      go_ret
      exact ⟨by rw [hr.out]; rfl, rfl⟩
  · have hr : Hid (v = false) := Lib.hid (by rw [← hv, decide_eq_false h1, Bool.false_and])
    have g1 : ¬ (48 : Int) ≤ (c : Int) := by omega
    clear hv
    go_enter Try.func77, Try.ntmps77
    go_wp2
    go_ret
    exact ⟨by rw [hr.out]; rfl, rfl⟩
theorem pn_at (s : ByteArray) (k : Nat) (hk : k < s.size) : pn (s.data.toList.drop k) = if (s[k]'hk).toNat = 46 then 0 else pn (s.data.toList.drop (k + 1)) + 1 := by
  rw [bytes_drop8 s hk, pn]
theorem point8 (s : ByteArray) (hs : s.size ≤ 1048576) {v : Nat} (hv : pn s.data.toList = v) (w : World) :
    Calls Try.prog 58 #[.string s] w fun e w' => e = .returned (.int .i64 (v : Int)) ∧ w = w' := by
  have hv0 := Lib.hid hv
  clear hv
  go_enter Try.func58, Try.ntmps58
  go_wp2
  go_loopw [3] (fun i wr => ∃ k : Nat, k ≤ s.size ∧ i = .int .i64 k ∧ w = wr ∧ pn s.data.toList = k + pn (s.data.toList.drop k)) (fun i _ => s.size - (intOf i).toNat)
  case atStart => exact ⟨0, by omega, rfl, rfl, by simp⟩
  case round =>
    obtain ⟨k, hk, rfl, rfl, he⟩ := hrel
    replace he := Lib.hid he
    by_cases hlt : k < s.size
    · have hp := Lib.hid (pn_at s k hlt)
      have hk1 : (k : Int) < (s.size : Int) := by omega
      by_cases hb : (s[k]'hlt).toNat = 46
      · have g1 : (((s[k]'hlt).toNat : Int) == 46) = true := beq_iff_eq.2 (by omega)
        have g1' : ((s[k]'hlt).toNat == 46) = true := beq_iff_eq.2 hb
        have hr : Hid (v = k) := Lib.hid (by rw [← hv0.out, he.out, hp.out, if_pos hb]; rfl)
        replace hb := Lib.hid hb
        go_wp2
        go_ret
        exact ⟨by rw [hr.out]; rfl, rfl⟩
      · have g1 : (((s[k]'hlt).toNat : Int) == 46) = false := beq_eq_false_iff_ne.2 (by omega)
        have g1' : ((s[k]'hlt).toNat == 46) = false := beq_eq_false_iff_ne.2 hb
        have hnx : Hid (pn s.data.toList = (k + 1) + pn (s.data.toList.drop (k + 1))) := Lib.hid (by rw [he.out, hp.out, if_neg hb]; omega)
        replace hb := Lib.hid hb
        go_wp2
        go_roundw
        case rel => exact ⟨k + 1, by omega, by go_num, by trivial, hnx.out⟩
        case measure => simp [intOf]; omega
    · obtain rfl : k = s.size := by omega
      have hr : Hid (v = s.size) := Lib.hid (by rw [← hv0.out, he.out, List.drop_of_length_le (by rw [size_len8]; omega)]; rfl)
      go_wp2
      go_ret
      exact ⟨by rw [hr.out]; rfl, rfl⟩
theorem byte_all (x : ByteArray) (k : Nat) (hk : k < x.size) : (x.data.toList.drop k).all isD = ((decide (48 ≤ (x[k]'hk).toNat) && decide ((x[k]'hk).toNat ≤ 57)) && (x.data.toList.drop (k + 1)).all isD) := by
  rw [bytes_drop8 x hk, List.all_cons]
  rfl
theorem dgB_none : dgB ByteArray.empty = false := rfl
theorem dgB_some {x : ByteArray} (h : 0 < x.size) : dgB x = x.data.toList.all isD := by
  unfold dgB dg
  cases hx : x.data.toList with
  | nil => have : x.data.toList.length = x.size := rfl; rw [hx] at this; simp at this; omega
  | cons a r => rfl
theorem unm_minus (s : ByteArray) (h : 0 < s.size) (h5 : (s[0]'h).toNat = 45) : (s.extract 1 s.size).data.toList = unm s.data.toList := by
  rw [ext8_data s 1 s.size (by omega) (by omega), List.take_of_length_le (by rw [size_len8]; omega)]
  have hd := bytes_drop8 s h
  simp only [List.drop_zero] at hd
  conv => rhs; rw [hd]
  rw [unm, if_pos h5]
theorem unm_other (s : ByteArray) (h : ∀ h : 0 < s.size, ¬ (s[0]'h).toNat = 45) : unm s.data.toList = s.data.toList := by
  by_cases h0 : 0 < s.size
  · have hd := bytes_drop8 s h0
    simp only [List.drop_zero] at hd
    conv => lhs; rw [hd]
    rw [unm, if_neg (h h0), ← hd]
  · have : s.data.toList = [] := List.length_eq_zero_iff.1 (by rw [size_len8]; omega)
    rw [this]; rfl
set_option maxRecDepth 100000 in
set_option maxHeartbeats 3200000 in
theorem number8_spec (s : ByteArray) (hs : s.size ≤ 1048576) {v : Bool} (hv : numL s.data.toList = v) (w : World) :
    Calls Try.prog 56 #[.string s] w fun e w' => e = .returned (.bool v) ∧ Below w.heap.size w w' := by
  have hv0 := Lib.hid hv
  clear hv
  by_cases h0 : 0 < s.size
  · have hd0 : decide ((0 : Int) < (s.size : Int)) = true := decide_eq_true (by omega)
    have hd0' : decide (0 < s.size) = true := decide_eq_true h0
    by_cases h5 : (s[0]'h0).toNat = 45
    · have g1 : (((s[0]'h0).toNat : Int) == 45) = true := beq_iff_eq.2 (by omega)
      have g1' : ((s[0]'h0).toNat == 45) = true := beq_iff_eq.2 h5
      have hsl := fun W => run_slice_string (P := Try.prog) W 9 s .i64 .i64 (1 : Int) (s.size : Int) Try.underlying9 (by omega) (by omega) (by omega)
      have hum := unm_minus s h0 h5
      have hres : Hid (v = ((split8 46 (s.extract 1 s.size)).all dgB && decide ((split8 46 (s.extract 1 s.size)).length ≤ 2))) := Lib.hid (by rw [← hv0.out, num_split, numL, hum])
      have hsz : (s.extract 1 s.size).size ≤ 1048576 := by rw [ByteArray.size_extract]; omega
      have hsp := Lib.hid (fun W => split8_spec 46 (s.extract 1 s.size) W hsz)
      replace h5 := Lib.hid h5
      replace hum := Lib.hid hum
      go_enter Try.func56, Try.ntmps56
      go_wp2_with fail
      refine (hsp.out _).mono ?_
      rintro e w1 ⟨A, n, c, rfl, hn, hO, hb1⟩
      have hS := hO.srow
      have hlen := Lib.hid hO.1
      replace hb1 := Lib.hid hb1
      clear hO hsp
      generalize hxs : split8 46 (s.extract 1 s.size) = xs at *
      have hszx := Lib.hid (fun (x : ByteArray) (hx : x ∈ xs) => Nat.le_trans (split8_size (hxs ▸ hx)) hsz)
      clear hxs
      go_wp2
      go_loopw [4, 5] (fun i kk wr => ∃ j : Nat, j ≤ n ∧ i = .int .i64 j ∧ w1 = wr ∧ xs.all dgB = (xs.drop j).all dgB) (fun i _ _ => n - (intOf i).toNat)
      case atStart => exact ⟨0, by omega, rfl, rfl, rfl⟩
      case round =>
        obtain ⟨j, hj, rfl, rfl, he⟩ := hrel
        replace he := Lib.hid he
        by_cases hlt : j < n
        · obtain ⟨b, off, x, rfl, hb, hx, c0⟩ := str_at hS hlt
          have hst := Lib.hid (all8_drop (p := dgB) hx.out)
          have hxz := hszx.out x (List.mem_of_getElem? hx.out)
          have hj0 : (0 : Int) ≤ (j : Int) := Int.natCast_nonneg _
          have hj1 : (j : Int) < (n : Int) := by omega
          by_cases h0x : x.size = 0
          · obtain rfl := size_zero8 x h0x
            have hr : Hid (v = false) := Lib.hid (by rw [hres.out, he.out, hst.out, dgB_none]; rfl)
            go_wp2
            go_ret
            exact ⟨ret_bo hr.out.symm, hb1.out⟩
          · have hdx : Hid (dgB x = x.data.toList.all isD) := Lib.hid (dgB_some (by omega))
            have hne := isEmpty8 x (by omega)
            have hne2 := nil8 x (by omega)
            replace h0x := Lib.hid h0x
            go_wp2
            go_loopw [5] (fun kk wr => ∃ k : Nat, k ≤ x.size ∧ kk = .int .i64 k ∧ w1 = wr ∧ dgB x = (x.data.toList.drop k).all isD) (fun kk _ => x.size - (intOf kk).toNat)
            case atStart => exact ⟨0, by omega, rfl, rfl, hdx.out⟩
            case round =>
              obtain ⟨k, hk, rfl, rfl, he2⟩ := hrel
              replace he2 := Lib.hid he2
              by_cases hlt2 : k < x.size
              · have hst2 := Lib.hid (byte_all x k hlt2)
                have hk1 : (k : Int) < (x.size : Int) := by omega
                cases h2 : (decide (48 ≤ (x[k]'hlt2).toNat) && decide ((x[k]'hlt2).toNat ≤ 57)) with
                | false =>
                  have hr : Hid (v = false) := Lib.hid (by rw [hres.out, he.out, hst.out, he2.out, hst2.out, h2]; rfl)
                  have hc := Lib.hid (fun W => digit8 _ h2 W)
                  clear h2
                  go_wp2_with fail
                  refine (hc.out _).mono ?_
                  rintro e w2 ⟨rfl, rfl⟩
                  go_wp2
                  go_ret
                  exact ⟨ret_bo hr.out.symm, hb1.out⟩
                | true =>
                  have hnx : Hid (dgB x = (x.data.toList.drop (k + 1)).all isD) := Lib.hid (by rw [he2.out, hst2.out, h2]; rfl)
                  have hc := Lib.hid (fun W => digit8 _ h2 W)
                  clear h2
                  go_wp2_with fail
                  refine (hc.out _).mono ?_
                  rintro e w2 ⟨rfl, rfl⟩
                  go_wp2
                  go_roundw
                  case rel => exact ⟨k + 1, by omega, by go_num, by trivial, hnx.out⟩
                  case measure => simp [intOf]; omega
              · obtain rfl : k = x.size := by omega
                have hnx : Hid (xs.all dgB = (xs.drop (j + 1)).all dgB) := Lib.hid (by rw [he.out, hst.out, he2.out, List.drop_of_length_le (by rw [size_len8]; omega)]; rfl)
                go_wp2
                go_roundw
                case rel => exact ⟨j + 1, by omega, by go_num, by trivial, hnx.out⟩
                case measure => simp [intOf]; omega
        · obtain rfl : j = n := by omega
          have hr : Hid (v = decide (j ≤ 2)) := Lib.hid (by rw [hres.out, he.out, all8_end (by rw [hlen.out]; omega), Bool.true_and, hlen.out])
          have hd : decide ((j : Int) ≤ 2) = decide (j ≤ 2) := decide_eq_decide.2 (by omega)
          go_wp2
          go_ret
          exact ⟨by rw [hr.out]; first | rfl | rw [hd], hb1.out⟩
    · have g1 : (((s[0]'h0).toNat : Int) == 45) = false := beq_eq_false_iff_ne.2 (by omega)
      have g1' : ((s[0]'h0).toNat == 45) = false := beq_eq_false_iff_ne.2 h5
      have hum := unm_other s (fun _ => h5)
      have hres : Hid (v = ((split8 46 s).all dgB && decide ((split8 46 s).length ≤ 2))) := Lib.hid (by rw [← hv0.out, num_split, numL, hum])
      have hsz := hs
      have hsp := Lib.hid (fun W => split8_spec 46 s W hsz)
      replace h5 := Lib.hid h5
      replace hum := Lib.hid hum
      go_enter Try.func56, Try.ntmps56
      go_wp2_with fail
      refine (hsp.out _).mono ?_
      rintro e w1 ⟨A, n, c, rfl, hn, hO, hb1⟩
      have hS := hO.srow
      have hlen := Lib.hid hO.1
      replace hb1 := Lib.hid hb1
      clear hO hsp
      generalize hxs : split8 46 s = xs at *
      have hszx := Lib.hid (fun (x : ByteArray) (hx : x ∈ xs) => Nat.le_trans (split8_size (hxs ▸ hx)) hsz)
      clear hxs
      go_wp2
      go_loopw [4, 5] (fun i kk wr => ∃ j : Nat, j ≤ n ∧ i = .int .i64 j ∧ w1 = wr ∧ xs.all dgB = (xs.drop j).all dgB) (fun i _ _ => n - (intOf i).toNat)
      case atStart => exact ⟨0, by omega, rfl, rfl, rfl⟩
      case round =>
        obtain ⟨j, hj, rfl, rfl, he⟩ := hrel
        replace he := Lib.hid he
        by_cases hlt : j < n
        · obtain ⟨b, off, x, rfl, hb, hx, c0⟩ := str_at hS hlt
          have hst := Lib.hid (all8_drop (p := dgB) hx.out)
          have hxz := hszx.out x (List.mem_of_getElem? hx.out)
          have hj0 : (0 : Int) ≤ (j : Int) := Int.natCast_nonneg _
          have hj1 : (j : Int) < (n : Int) := by omega
          by_cases h0x : x.size = 0
          · obtain rfl := size_zero8 x h0x
            have hr : Hid (v = false) := Lib.hid (by rw [hres.out, he.out, hst.out, dgB_none]; rfl)
            go_wp2
            go_ret
            exact ⟨ret_bo hr.out.symm, hb1.out⟩
          · have hdx : Hid (dgB x = x.data.toList.all isD) := Lib.hid (dgB_some (by omega))
            have hne := isEmpty8 x (by omega)
            have hne2 := nil8 x (by omega)
            replace h0x := Lib.hid h0x
            go_wp2
            go_loopw [5] (fun kk wr => ∃ k : Nat, k ≤ x.size ∧ kk = .int .i64 k ∧ w1 = wr ∧ dgB x = (x.data.toList.drop k).all isD) (fun kk _ => x.size - (intOf kk).toNat)
            case atStart => exact ⟨0, by omega, rfl, rfl, hdx.out⟩
            case round =>
              obtain ⟨k, hk, rfl, rfl, he2⟩ := hrel
              replace he2 := Lib.hid he2
              by_cases hlt2 : k < x.size
              · have hst2 := Lib.hid (byte_all x k hlt2)
                have hk1 : (k : Int) < (x.size : Int) := by omega
                cases h2 : (decide (48 ≤ (x[k]'hlt2).toNat) && decide ((x[k]'hlt2).toNat ≤ 57)) with
                | false =>
                  have hr : Hid (v = false) := Lib.hid (by rw [hres.out, he.out, hst.out, he2.out, hst2.out, h2]; rfl)
                  have hc := Lib.hid (fun W => digit8 _ h2 W)
                  clear h2
                  go_wp2_with fail
                  refine (hc.out _).mono ?_
                  rintro e w2 ⟨rfl, rfl⟩
                  go_wp2
                  go_ret
                  exact ⟨ret_bo hr.out.symm, hb1.out⟩
                | true =>
                  have hnx : Hid (dgB x = (x.data.toList.drop (k + 1)).all isD) := Lib.hid (by rw [he2.out, hst2.out, h2]; rfl)
                  have hc := Lib.hid (fun W => digit8 _ h2 W)
                  clear h2
                  go_wp2_with fail
                  refine (hc.out _).mono ?_
                  rintro e w2 ⟨rfl, rfl⟩
                  go_wp2
                  go_roundw
                  case rel => exact ⟨k + 1, by omega, by go_num, by trivial, hnx.out⟩
                  case measure => simp [intOf]; omega
              · obtain rfl : k = x.size := by omega
                have hnx : Hid (xs.all dgB = (xs.drop (j + 1)).all dgB) := Lib.hid (by rw [he.out, hst.out, he2.out, List.drop_of_length_le (by rw [size_len8]; omega)]; rfl)
                go_wp2
                go_roundw
                case rel => exact ⟨j + 1, by omega, by go_num, by trivial, hnx.out⟩
                case measure => simp [intOf]; omega
        · obtain rfl : j = n := by omega
          have hr : Hid (v = decide (j ≤ 2)) := Lib.hid (by rw [hres.out, he.out, all8_end (by rw [hlen.out]; omega), Bool.true_and, hlen.out])
          have hd : decide ((j : Int) ≤ 2) = decide (j ≤ 2) := decide_eq_decide.2 (by omega)
          go_wp2
          go_ret
          exact ⟨by rw [hr.out]; first | rfl | rw [hd], hb1.out⟩
  · have hd0 : decide ((0 : Int) < (s.size : Int)) = false := decide_eq_false (by omega)
    have hd0' : decide (0 < s.size) = false := decide_eq_false h0
    have hum := unm_other s (fun h => absurd h h0)
    have hres : Hid (v = ((split8 46 s).all dgB && decide ((split8 46 s).length ≤ 2))) := Lib.hid (by rw [← hv0.out, num_split, numL, hum])
    have hsz := hs
    have hsp := Lib.hid (fun W => split8_spec 46 s W hsz)
    replace h0 := Lib.hid h0
    replace hum := Lib.hid hum
    go_enter Try.func56, Try.ntmps56
    go_wp2_with fail
    refine (hsp.out _).mono ?_
    rintro e w1 ⟨A, n, c, rfl, hn, hO, hb1⟩
    have hS := hO.srow
    have hlen := Lib.hid hO.1
    replace hb1 := Lib.hid hb1
    clear hO hsp
    generalize hxs : split8 46 s = xs at *
    have hszx := Lib.hid (fun (x : ByteArray) (hx : x ∈ xs) => Nat.le_trans (split8_size (hxs ▸ hx)) hsz)
    clear hxs
    go_wp2
    go_loopw [4, 5] (fun i kk wr => ∃ j : Nat, j ≤ n ∧ i = .int .i64 j ∧ w1 = wr ∧ xs.all dgB = (xs.drop j).all dgB) (fun i _ _ => n - (intOf i).toNat)
    case atStart => exact ⟨0, by omega, rfl, rfl, rfl⟩
    case round =>
      obtain ⟨j, hj, rfl, rfl, he⟩ := hrel
      replace he := Lib.hid he
      by_cases hlt : j < n
      · obtain ⟨b, off, x, rfl, hb, hx, c0⟩ := str_at hS hlt
        have hst := Lib.hid (all8_drop (p := dgB) hx.out)
        have hxz := hszx.out x (List.mem_of_getElem? hx.out)
        have hj0 : (0 : Int) ≤ (j : Int) := Int.natCast_nonneg _
        have hj1 : (j : Int) < (n : Int) := by omega
        by_cases h0x : x.size = 0
        · obtain rfl := size_zero8 x h0x
          have hr : Hid (v = false) := Lib.hid (by rw [hres.out, he.out, hst.out, dgB_none]; rfl)
          go_wp2
          go_ret
          exact ⟨ret_bo hr.out.symm, hb1.out⟩
        · have hdx : Hid (dgB x = x.data.toList.all isD) := Lib.hid (dgB_some (by omega))
          have hne := isEmpty8 x (by omega)
          have hne2 := nil8 x (by omega)
          replace h0x := Lib.hid h0x
          go_wp2
          go_loopw [5] (fun kk wr => ∃ k : Nat, k ≤ x.size ∧ kk = .int .i64 k ∧ w1 = wr ∧ dgB x = (x.data.toList.drop k).all isD) (fun kk _ => x.size - (intOf kk).toNat)
          case atStart => exact ⟨0, by omega, rfl, rfl, hdx.out⟩
          case round =>
            obtain ⟨k, hk, rfl, rfl, he2⟩ := hrel
            replace he2 := Lib.hid he2
            by_cases hlt2 : k < x.size
            · have hst2 := Lib.hid (byte_all x k hlt2)
              have hk1 : (k : Int) < (x.size : Int) := by omega
              cases h2 : (decide (48 ≤ (x[k]'hlt2).toNat) && decide ((x[k]'hlt2).toNat ≤ 57)) with
              | false =>
                have hr : Hid (v = false) := Lib.hid (by rw [hres.out, he.out, hst.out, he2.out, hst2.out, h2]; rfl)
                have hc := Lib.hid (fun W => digit8 _ h2 W)
                clear h2
                go_wp2_with fail
                refine (hc.out _).mono ?_
                rintro e w2 ⟨rfl, rfl⟩
                go_wp2
                go_ret
                exact ⟨ret_bo hr.out.symm, hb1.out⟩
              | true =>
                have hnx : Hid (dgB x = (x.data.toList.drop (k + 1)).all isD) := Lib.hid (by rw [he2.out, hst2.out, h2]; rfl)
                have hc := Lib.hid (fun W => digit8 _ h2 W)
                clear h2
                go_wp2_with fail
                refine (hc.out _).mono ?_
                rintro e w2 ⟨rfl, rfl⟩
                go_wp2
                go_roundw
                case rel => exact ⟨k + 1, by omega, by go_num, by trivial, hnx.out⟩
                case measure => simp [intOf]; omega
            · obtain rfl : k = x.size := by omega
              have hnx : Hid (xs.all dgB = (xs.drop (j + 1)).all dgB) := Lib.hid (by rw [he.out, hst.out, he2.out, List.drop_of_length_le (by rw [size_len8]; omega)]; rfl)
              go_wp2
              go_roundw
              case rel => exact ⟨j + 1, by omega, by go_num, by trivial, hnx.out⟩
              case measure => simp [intOf]; omega
      · obtain rfl : j = n := by omega
        have hr : Hid (v = decide (j ≤ 2)) := Lib.hid (by rw [hres.out, he.out, all8_end (by rw [hlen.out]; omega), Bool.true_and, hlen.out])
        have hd : decide ((j : Int) ≤ 2) = decide (j ≤ 2) := decide_eq_decide.2 (by omega)
        go_wp2
        go_ret
        exact ⟨by rw [hr.out]; first | rfl | rw [hd], hb1.out⟩

theorem decR_2a {s : ByteArray} {c : Int} (h : inR c 0 119 = false) : decR s c = (0, 2) := by simp [decR, h]
theorem decR_2b {s : ByteArray} {c : Int} (h : ¬ s.size ≤ 30) : decR s c = (0, 2) := by simp [decR, h]
theorem decR_ok {s : ByteArray} {c : Int} (h : inR c 0 119 = true) (h2 : s.size ≤ 30) : decR s c = if numL s.data.toList = true then (if c < (pn s.data.toList : Int) then (0, 5) else (c - pn s.data.toList, 0)) else (0, 7) := by simp [decR, h, h2]
set_option maxRecDepth 100000 in
set_option maxHeartbeats 1600000 in
theorem dec8_spec (s : ByteArray) (c : Int) (w : World) (hs : s.size ≤ 1048576) (hc : (Lit.int .i64 c).wf = true) :
    Calls Try.prog 21 #[.string s, .int .i64 c] w fun e w' => e = .returned (.tuple #[.int .i64 (decR s c).1, .int .i64 (decR s c).2]) ∧ Below w.heap.size w w' := by
  generalize hr : decR s c = r
  replace hr := Lib.hid hr.symm
  clear hc
  cases h1 : inR c 0 119 with
  | false =>
    have hbad : Hid (r = (0, 2)) := Lib.hid (by rw [hr.out, decR_2a h1])
    have hc1 := Lib.hid (fun W => in8_spec h1 W)
    clear h1 hr
    go_enter Try.func21, Try.ntmps21
    go_wp2_with fail
    refine (hc1.out _).mono ?_
    rintro e w1 ⟨rfl, rfl⟩
    go_wp2
    go_ret2
    exact ⟨ret8_2 hbad.out, Below.refl _ _⟩
  | true =>
    have hc1 := Lib.hid (fun W => in8_spec h1 W)
    by_cases h30 : s.size ≤ 30
    · have g0 : decide ((30 : Int) < (s.size : Int)) = false := decide_eq_false (by omega)
      have g0' : decide (30 < s.size) = false := decide_eq_false (by omega)
      have hres := Lib.hid (hr.out.trans (decR_ok h1 h30))
      obtain ⟨c0, c1⟩ := inR_iff.1 h1
      cases h2 : numL s.data.toList with
      | false =>
        have hbad : Hid (r = (0, 7)) := Lib.hid (by rw [hres.out, h2]; rfl)
        have hc2 := Lib.hid (fun W => number8_spec s hs h2 W)
        clear h1 h2 hr hres
        go_enter Try.func21, Try.ntmps21
        go_wp2_with fail
        refine (hc1.out _).mono ?_
        rintro e w1 ⟨rfl, rfl⟩
        go_wp2_with fail
        refine (hc2.out _).mono ?_
        rintro e w2 ⟨rfl, hb2⟩
        go_wp2
        go_ret2
        exact ⟨ret8_2 hbad.out, hb2⟩
      | true =>
        have hc2 := Lib.hid (fun W => number8_spec s hs h2 W)
        have hple := pn_le s.data.toList
        rw [size_len8] at hple
        have hc3 := Lib.hid (fun W => point8 s hs rfl W)
        have hres2 := Lib.hid (hres.out.trans (if_pos h2))
        clear h1 h2 hr hres
        generalize pn s.data.toList = p at *
        have hw : IntKind.i64.wrap (c - (p : Int)) = c - (p : Int) := IntWalk.i64_in _ (by omega)
        by_cases hcp : c < (p : Int)
        · have hbad : Hid (r = (0, 5)) := Lib.hid (by rw [hres2.out, if_pos hcp])
          have g3 : c - (p : Int) < 0 := by omega
          go_enter Try.func21, Try.ntmps21
          go_wp2_with fail
          refine (hc1.out _).mono ?_
          rintro e w1 ⟨rfl, rfl⟩
          go_wp2_with fail
          refine (hc2.out _).mono ?_
          rintro e w2 ⟨rfl, hb2⟩
          go_wp2_with fail
          refine (hc3.out _).mono ?_
          rintro e w3 ⟨rfl, rfl⟩
          go_wp2
          go_ret2
          exact ⟨ret8_2 hbad.out, hb2⟩
        · have hgood : Hid (r = (c - (p : Int), 0)) := Lib.hid (by rw [hres2.out, if_neg hcp])
          have g3 : ¬ (c - (p : Int) < 0) := by omega
          go_enter Try.func21, Try.ntmps21
          go_wp2_with fail
          refine (hc1.out _).mono ?_
          rintro e w1 ⟨rfl, rfl⟩
          go_wp2_with fail
          refine (hc2.out _).mono ?_
          rintro e w2 ⟨rfl, hb2⟩
          go_wp2_with fail
          refine (hc3.out _).mono ?_
          rintro e w3 ⟨rfl, rfl⟩
          go_wp2
          go_ret2
          exact ⟨ret8_2 hgood.out, hb2⟩
    · have g0 : decide ((30 : Int) < (s.size : Int)) = true := decide_eq_true (by omega)
      have g0' : decide (30 < s.size) = true := decide_eq_true (by omega)
      have hbad : Hid (r = (0, 2)) := Lib.hid (by rw [hr.out, decR_2b h30])
      clear h1 hr
      go_enter Try.func21, Try.ntmps21
      go_wp2_with fail
      refine (hc1.out _).mono ?_
      rintro e w1 ⟨rfl, rfl⟩
      go_wp2
      go_ret2
      exact ⟨ret8_2 hbad.out, Below.refl _ _⟩
end Go.Proofs.Ytmgoidngecimbaa
