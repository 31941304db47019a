/- A number read from a text: the model's own reading answers as the plain function numOk, numVal of XNum0 says. -/
import Derived.Test.YtkdpileflddohaaDoorNum0
import Derived.Test.YtkdpileflddohaaDoorDecLaw
import Derived.Lib.Strings
import Derived.Lib.IndexBytes
namespace Go.Proofs.YtkdpileflddohaaDoor
open Go.RowKit Go.Lib
set_option linter.unusedVariables false
set_option linter.unusedSimpArgs false

theorem digit_is (c : UInt8) (b : Bool) (h : isDig c = b) (w : World) : Calls Tryd.prog 26 #[.int .u8 c.toNat] w fun e w' => e = .returned (.bool b) ∧ w = w' := by
  subst h
  by_cases h1 : 48 ≤ (c.toNat : Int)
  · have e : isDig c = decide ((c.toNat : Int) ≤ 57) := by
      have : decide (48 ≤ c.toNat) = true := decide_eq_true (by omega)
      have h2 : decide (c.toNat ≤ 57) = decide ((c.toNat : Int) ≤ 57) := by
        apply decide_eq_decide.2
        omega
      rw [isDig, this, h2, Bool.true_and]
    rw [e]
    go_enter Tryd.func26, Tryd.ntmps26
    go_wp2
    go_ret
    exact ⟨rfl, rfl⟩
  · have e : isDig c = false := by
      have : decide (48 ≤ c.toNat) = false := decide_eq_false (by omega)
      simp [isDig, this]
    rw [e]
    go_enter Tryd.func26, Tryd.ntmps26
    go_wp2
    go_ret
    exact ⟨rfl, rfl⟩

theorem str_of_list {l : List UInt8} {s : ByteArray} (h : l = s.data.toList) : (⟨l.toArray⟩ : ByteArray) = s := by
  apply ByteArray.ext
  rw [h]
theorem str_ne {l : List UInt8} {s D : ByteArray} (hD : (⟨l.toArray⟩ : ByteArray) = D) (h : ¬ l = s.data.toList) : (D.toList == s.toList) = false := by
  subst hD
  rw [beq_eq_false_iff_ne, ByteArray.toList_eq, ByteArray.toList_eq]
  exact h
theorem take_all (T : ByteArray) : valFrom 0 (T.data.toList.take T.size) = valFrom 0 T.data.toList := by
  rw [List.take_of_length_le (show T.data.toList.length ≤ T.size from Nat.le_refl _)]
theorem num_yes {l : List UInt8} {n : Int} (h : numOk l = (Lib.itoa (numVal l) == l)) (hn : n = numVal l) (hc : Lib.itoa n = l) : numOk l = true := by
  rw [h, ← hn, hc]
  exact beq_self_eq_true l
theorem num_no {l : List UInt8} {n : Int} (h : numOk l = (Lib.itoa (numVal l) == l)) (hn : n = numVal l) (hc : ¬ Lib.itoa n = l) : numOk l = false := by
  rw [h, ← hn]
  exact beq_eq_false_iff_ne.2 hc

theorem dec_is (n : Int) (D : ByteArray) (hD : (⟨(Lib.itoa n).toArray⟩ : ByteArray) = D) (h0 : -9223372036854775808 ≤ n) (h1 : n ≤ 9223372036854775807) (w : World) :
    Calls Tryd.prog 17 #[.int .i64 n] w fun e w' => e = .returned (.string D) ∧ Below w.heap.size w w' := hD ▸ dec_any n h0 h1 w

theorem num_short {l : List UInt8} (h : (unsigned l).length < 1) : numOk l = false := by
  unfold numOk
  rw [decide_eq_false (by omega)]
  rfl
theorem num_long {l : List UInt8} (h : 18 < (unsigned l).length) : numOk l = false := by
  unfold numOk
  rw [decide_eq_false (show ¬ (unsigned l).length ≤ 18 by omega)]
  simp
theorem num_bad {l : List UInt8} {c : UInt8} (hc : c ∈ unsigned l) (h : isDig c = false) : numOk l = false := by
  unfold numOk
  have : (unsigned l).all isDig = false := by
    rw [List.all_eq_false]
    exact ⟨c, hc, by simp [h]⟩
  rw [this]
  simp
theorem num_same {l : List UInt8} (h1 : 1 ≤ (unsigned l).length) (h18 : (unsigned l).length ≤ 18) (hd : ∀ c ∈ unsigned l, isDig c = true) : numOk l = (Lib.itoa (numVal l) == l) := by
  unfold numOk
  rw [decide_eq_true h1, decide_eq_true h18, List.all_eq_true.2 hd]
  simp
theorem ret_num {l : List UInt8} (h : numOk l = false) : Ending.returned (.tuple #[.int .i64 0, .bool false]) = .returned (.tuple #[.int .i64 (numAns l), .bool (numOk l)]) := by
  rw [numAns, h]
  rfl
theorem ret_num_ok {l : List UInt8} {n : Int} (h : numOk l = true) (hn : n = numVal l) : Ending.returned (.tuple #[.int .i64 n, .bool true]) = .returned (.tuple #[.int .i64 (numAns l), .bool (numOk l)]) := by
  rw [numAns, h, hn]
  rfl

theorem take_step {l : List UInt8} {k : Nat} (hk : k < l.length) : valFrom 0 (l.take (k + 1)) = valFrom 0 (l.take k) * 10 + (l[k].toNat - 48) := by
  rw [List.take_succ_eq_append_getElem hk, valFrom_snoc]
theorem take_small {l : List UInt8} {k : Nat} (hk : k ≤ l.length) (h18 : l.length ≤ 18) (h : ∀ i (hi : i < l.length), i < k → isDig l[i] = true) : valFrom 0 (l.take k) < 1000000000000000000 := by
  refine val_small (fun c hc => ?_) (by rw [List.length_take]; omega)
  obtain ⟨i, hi, rfl⟩ := List.getElem_of_mem hc
  rw [List.length_take] at hi
  rw [List.getElem_take]
  exact h i (by omega) (by omega)

/-- The part of the reading that no sign turns: T is what lies behind it. -/
structure NumPart (s T : ByteArray) : Prop where
  t : T.data.toList = unsigned s.data.toList
  le : T.size ≤ s.size

theorem part_minus {s : ByteArray} (h : 0 < s.size) (h45 : (s[0]'h).toNat = 45) : NumPart s (s.extract 1 s.size) ∧ (s.extract 1 s.size).size < s.size := by
  have hl : s.data.toList = s[0] :: s.data.toList.drop 1 := by
    have := List.drop_eq_getElem_cons (l := s.data.toList) (i := 0) (by show 0 < s.size; exact h)
    rw [List.drop_zero] at this
    exact this
  have hc : s[0] = 45 := UInt8.toNat.inj (by simpa using h45)
  have ht : (s.extract 1 s.size).data.toList = s.data.toList.drop 1 := Lib.extract_to_end s 1
  have hz : (s.extract 1 s.size).size = s.size - 1 := by simp
  refine ⟨⟨?_, by omega⟩, by omega⟩
  rw [ht, hl, hc]
  rfl
theorem part_plain {s : ByteArray} (h : 0 < s.size) (h45 : ¬ (s[0]'h).toNat = 45) : NumPart s s := by
  have hl : s.data.toList = s[0] :: s.data.toList.drop 1 := by
    have := List.drop_eq_getElem_cons (l := s.data.toList) (i := 0) (by show 0 < s.size; exact h)
    rw [List.drop_zero] at this
    exact this
  refine ⟨?_, Nat.le_refl _⟩
  rw [hl, unsigned_other _ fun e => h45 (by rw [e]; rfl)]
theorem part_sign {s T : ByteArray} (h : NumPart s T) : numVal s.data.toList = if T.size < s.size then -(valFrom 0 T.data.toList : Int) else valFrom 0 T.data.toList := by
  unfold numVal
  rw [← h.t]
  rfl

set_option maxHeartbeats 1600000 in
theorem number_minus (s : ByteArray) (w : World) (hs : s.size ≤ 9223372036854775807)
    (h0' : 0 < s.size) (he1 : s.toList.isEmpty = false) (he2 : ¬ s.toList = []) (h45 : (s[0]'h0').toNat = 45) :
    Calls Tryd.prog 19 #[.string s] w fun e w' => e = .returned (.tuple #[.int .i64 (numAns s.data.toList), .bool (numOk s.data.toList)]) ∧ Below w.heap.size w w' := by
  obtain ⟨hpart, hlt⟩ := part_minus h0' h45
  have hz : (s.extract 1 s.size).size = s.size - 1 := by simp
  have h45' : (((s[0]'h0').toNat : Int) == 45) = true := beq_iff_eq.2 (by omega)
  replace hpart := Lib.hid hpart
  replace hlt := Lib.hid hlt
  replace hz := Lib.hid hz
  clear h45
  by_cases hsh : s.size - 1 < 1
  · have hres := Lib.hid (num_short (l := s.data.toList) (by rw [← hpart.out.t]; show (s.extract 1 s.size).size < 1; rw [hz.out]; exact hsh))
    go_enter Tryd.func19, Tryd.ntmps19
    go_wp2
    go_ret2
    exact ⟨ret_num hres.out, Below.refl _ _⟩
  · by_cases hlo : 18 < s.size - 1
    · have hres := Lib.hid (num_long (l := s.data.toList) (by rw [← hpart.out.t]; show 18 < (s.extract 1 s.size).size; rw [hz.out]; exact hlo))
      go_enter Tryd.func19, Tryd.ntmps19
      go_wp2
      go_ret2
      exact ⟨ret_num hres.out, Below.refl _ _⟩
    · go_enter Tryd.func19, Tryd.ntmps19
      have h18T00 : (s.extract 1 s.size).data.toList.length ≤ 18 := by show (s.extract 1 s.size).size ≤ 18; rw [hz.out]; omega
      have h1T00 : 1 ≤ (s.extract 1 s.size).data.toList.length := by show 1 ≤ (s.extract 1 s.size).size; rw [hz.out]; omega
      have h18T0 := Lib.hid h18T00
      have h1T0 := Lib.hid h1T00
      clear h18T00 h1T00
      go_wp2
      obtain ⟨T, hT⟩ : ∃ T, s.extract 1 s.size = T := ⟨_, rfl⟩
      rw [hT] at hpart hlt hz h18T0 h1T0 ⊢
      have h18T := h18T0.out
      have h1T := h1T0.out
      have hltT := hlt
      have hlts := hlt.out
      replace hT := Lib.hid hT
      clear h18T0 h1T0 hlt
      go_loop [5, 6] (fun n i => ∃ k v : Nat, k ≤ T.size ∧ i = .int .i64 k ∧ n = .int .i64 v ∧ v = valFrom 0 (T.data.toList.take k) ∧ ∀ i (hi : i < T.size), i < k → isDig (T[i]'hi) = true) (fun _ i => T.size - (RowKit.intOf i).toNat)
      case atStart => exact ⟨0, 0, by omega, rfl, rfl, rfl, fun i hi hk => absurd hk (by omega)⟩
      case round =>
        obtain ⟨k, v, hk, rfl, rfl, hv, hall⟩ := hrel
        replace hv := Lib.hid hv
        replace hall := Lib.hid hall
        by_cases hkt : k < T.size
        · have hst := Lib.hid (take_step (l := T.data.toList) (k := k) hkt)
          by_cases hd : isDig (T[k]'hkt) = true
          · have hnext : Hid (∀ i (hi : i < T.size), i < k + 1 → isDig (T[i]'hi) = true) := Lib.hid fun i hi hik => by
              rcases Nat.lt_or_ge i k with h | h
              · exact hall.out i hi h
              · obtain rfl : i = k := by omega
                exact hd
            have hsm := Lib.hid (take_small (l := T.data.toList) (k := k + 1) hkt h18T hnext.out)
            have hH : 48 ≤ (T[k]'hkt).toNat ∧ (T[k]'hkt).toNat ≤ 57 := by simpa [isDig] using hd
            have H1 : (48 : Int) ≤ ((T[k]'hkt).toNat : Int) := by omega
            have H2 : ((T[k]'hkt).toNat : Int) ≤ 57 := by omega
            have hb : (v : Int) ≤ 100000000000000000 := by
              have h1 := hsm.out
              rw [hst.out, ← hv.out] at h1
              omega
            have HD := Lib.hid hd
            have hnew : Hid (v * 10 + ((T[k]'hkt).toNat - 48) = valFrom 0 (T.data.toList.take (k + 1))) := Lib.hid (by rw [hst.out, ← hv.out]; rfl)
            have hcast : Hid ((10 * (v : Int) + (((T[k]'hkt).toNat : Int) - 48)) = ((v * 10 + ((T[k]'hkt).toNat - 48) : Nat) : Int)) := Lib.hid (by omega)
            clear hd hH hst hsm
            go_wp2_with (go_at_call 26; refine (digit_is _ true HD.out _).mono ?_; rintro e w' ⟨rfl, rfl⟩)
            go_round
            case rel => exact ⟨k + 1, v * 10 + ((T[k]'hkt).toNat - 48), by omega, by go_num, by rw [← hcast.out], hnew.out, hnext.out⟩
            case measure => simp [RowKit.intOf]; omega
          · have HD : Hid (isDig (T[k]'hkt) = false) := Lib.hid (by simpa using hd)
            have hres := Lib.hid (num_bad (l := s.data.toList) (c := T[k]'hkt) (by rw [← hpart.out.t]; exact List.getElem_mem (l := T.data.toList) hkt) HD.out)
            clear hd hst
            go_wp2_with (go_at_call 26; refine (digit_is _ false HD.out _).mono ?_; rintro e w' ⟨rfl, rfl⟩)
            go_ret2
            exact ⟨ret_num hres.out, Below.refl _ _⟩
        · obtain rfl : k = T.size := by omega
          have hvT : Hid (v = valFrom 0 T.data.toList) := Lib.hid (hv.out.trans (take_all _))
          have hsm := take_small (l := T.data.toList) (k := T.size) (Nat.le_refl _) h18T hall.out
          have hvb : v < 1000000000000000000 := by rw [hv.out]; exact hsm
          have hnv : Hid (-(v : Int) = numVal s.data.toList) := Lib.hid (by rw [part_sign hpart.out, if_pos hltT.out, hvT.out])
          have hsame := Lib.hid (num_same (l := s.data.toList) (by rw [← hpart.out.t]; exact h1T) (by rw [← hpart.out.t]; exact h18T) (by
            rw [← hpart.out.t]
            intro c hc
            obtain ⟨i, hi, rfl⟩ := List.getElem_of_mem hc
            exact hall.out i hi hi))
          clear hsm
          by_cases hcmp : Lib.itoa (-(v : Int)) = s.data.toList
          · have hD : Hid ((⟨(Lib.itoa (-(v : Int))).toArray⟩ : ByteArray) = s) := Lib.hid (str_of_list hcmp)
            have hok : Hid (numOk s.data.toList = true) := Lib.hid (num_yes hsame.out hnv.out hcmp)
            clear hcmp
            go_wp2_with (go_at_call 17; refine (dec_is (-(v : Int)) s hD.out (by omega) (by omega) _).mono ?_; rintro e w' ⟨rfl, hb⟩)
            go_ret2
            exact ⟨ret_num_ok hok.out hnv.out, hb⟩
          · obtain ⟨D, hD⟩ : ∃ D : ByteArray, (⟨(Lib.itoa (-(v : Int))).toArray⟩ : ByteArray) = D := ⟨_, rfl⟩
            have hne : (D.toList == s.toList) = false := str_ne hD hcmp
            have hok : Hid (numOk s.data.toList = false) := Lib.hid (num_no hsame.out hnv.out hcmp)
            replace hD := Lib.hid hD
            clear hcmp
            go_wp2_with (go_at_call 17; refine (dec_is (-(v : Int)) D hD.out (by omega) (by omega) _).mono ?_; rintro e w' ⟨rfl, hb⟩)
            go_ret2
            exact ⟨ret_num hok.out, hb⟩

set_option maxHeartbeats 1600000 in
theorem number_plain (s : ByteArray) (w : World) (hs : s.size ≤ 9223372036854775807)
    (h0' : 0 < s.size) (he1 : s.toList.isEmpty = false) (he2 : ¬ s.toList = []) (h45 : ¬ (s[0]'h0').toNat = 45) :
    Calls Tryd.prog 19 #[.string s] w fun e w' => e = .returned (.tuple #[.int .i64 (numAns s.data.toList), .bool (numOk s.data.toList)]) ∧ Below w.heap.size w w' := by
  have hpart := Lib.hid (part_plain h0' h45)
  have h45' : (((s[0]'h0').toNat : Int) == 45) = false := beq_eq_false_iff_ne.2 (by omega)
  have hsh : decide ((s.size : Int) < 1) = false := decide_eq_false (by omega)
  clear h45
  by_cases hlo : 18 < s.size
  · have hres := Lib.hid (num_long (l := s.data.toList) (by rw [← hpart.out.t]; exact hlo))
    go_enter Tryd.func19, Tryd.ntmps19
    go_wp2
    go_ret2
    exact ⟨ret_num hres.out, Below.refl _ _⟩
  · have h18T : s.data.toList.length ≤ 18 := by show s.size ≤ 18; omega
    have h1T : 1 ≤ s.data.toList.length := h0'
    go_enter Tryd.func19, Tryd.ntmps19
    go_wp2
    go_loop [5, 6] (fun n i => ∃ k v : Nat, k ≤ s.size ∧ i = .int .i64 k ∧ n = .int .i64 v ∧ v = valFrom 0 (s.data.toList.take k) ∧ ∀ i (hi : i < s.size), i < k → isDig (s[i]'hi) = true) (fun _ i => s.size - (RowKit.intOf i).toNat)
    case atStart => exact ⟨0, 0, by omega, rfl, rfl, rfl, fun i hi hk => absurd hk (by omega)⟩
    case round =>
      obtain ⟨k, v, hk, rfl, rfl, hv, hall⟩ := hrel
      replace hv := Lib.hid hv
      replace hall := Lib.hid hall
      by_cases hkt : k < s.size
      · have hst := Lib.hid (take_step (l := s.data.toList) (k := k) hkt)
        by_cases hd : isDig (s[k]'hkt) = true
        · have hnext : Hid (∀ i (hi : i < s.size), i < k + 1 → isDig (s[i]'hi) = true) := Lib.hid fun i hi hik => by
            rcases Nat.lt_or_ge i k with h | h
            · exact hall.out i hi h
            · obtain rfl : i = k := by omega
              exact hd
          have hsm := Lib.hid (take_small (l := s.data.toList) (k := k + 1) hkt h18T hnext.out)
          have hH : 48 ≤ (s[k]'hkt).toNat ∧ (s[k]'hkt).toNat ≤ 57 := by simpa [isDig] using hd
          have H1 : (48 : Int) ≤ ((s[k]'hkt).toNat : Int) := by omega
          have H2 : ((s[k]'hkt).toNat : Int) ≤ 57 := by omega
          have hb : (v : Int) ≤ 100000000000000000 := by
            have h1 := hsm.out
            rw [hst.out, ← hv.out] at h1
            omega
          have HD := Lib.hid hd
          have hnew : Hid (v * 10 + ((s[k]'hkt).toNat - 48) = valFrom 0 (s.data.toList.take (k + 1))) := Lib.hid (by rw [hst.out, ← hv.out]; rfl)
          have hcast : Hid ((10 * (v : Int) + (((s[k]'hkt).toNat : Int) - 48)) = ((v * 10 + ((s[k]'hkt).toNat - 48) : Nat) : Int)) := Lib.hid (by omega)
          clear hd hH hst hsm
          go_wp2_with (go_at_call 26; refine (digit_is _ true HD.out _).mono ?_; rintro e w' ⟨rfl, rfl⟩)
          go_round
          case rel => exact ⟨k + 1, v * 10 + ((s[k]'hkt).toNat - 48), by omega, by go_num, by rw [← hcast.out], hnew.out, hnext.out⟩
          case measure => simp [RowKit.intOf]; omega
        · have HD : Hid (isDig (s[k]'hkt) = false) := Lib.hid (by simpa using hd)
          have hres := Lib.hid (num_bad (l := s.data.toList) (c := s[k]'hkt) (by rw [← hpart.out.t]; exact List.getElem_mem (l := s.data.toList) hkt) HD.out)
          clear hd hst
          go_wp2_with (go_at_call 26; refine (digit_is _ false HD.out _).mono ?_; rintro e w' ⟨rfl, rfl⟩)
          go_ret2
          exact ⟨ret_num hres.out, Below.refl _ _⟩
      · obtain rfl : k = s.size := by omega
        have hvT : Hid (v = valFrom 0 s.data.toList) := Lib.hid (hv.out.trans (take_all _))
        have hsm := take_small (l := s.data.toList) (k := s.size) (Nat.le_refl _) h18T hall.out
        have hvb : v < 1000000000000000000 := by rw [hv.out]; exact hsm
        have hnv : Hid ((v : Int) = numVal s.data.toList) := Lib.hid (by rw [part_sign hpart.out, if_neg (Nat.lt_irrefl _), hvT.out])
        have hsame := Lib.hid (num_same (l := s.data.toList) (by rw [← hpart.out.t]; exact h1T) (by rw [← hpart.out.t]; exact h18T) (by
          rw [← hpart.out.t]
          intro c hc
          obtain ⟨i, hi, rfl⟩ := List.getElem_of_mem hc
          exact hall.out i hi hi))
        clear hsm
        by_cases hcmp : Lib.itoa ((v : Int)) = s.data.toList
        · have hD : Hid ((⟨(Lib.itoa ((v : Int))).toArray⟩ : ByteArray) = s) := Lib.hid (str_of_list hcmp)
          have hok : Hid (numOk s.data.toList = true) := Lib.hid (num_yes hsame.out hnv.out hcmp)
          clear hcmp
          go_wp2_with (go_at_call 17; refine (dec_is ((v : Int)) s hD.out (by omega) (by omega) _).mono ?_; rintro e w' ⟨rfl, hb⟩)
          go_ret2
          exact ⟨ret_num_ok hok.out hnv.out, hb⟩
        · obtain ⟨D, hD⟩ : ∃ D : ByteArray, (⟨(Lib.itoa ((v : Int))).toArray⟩ : ByteArray) = D := ⟨_, rfl⟩
          have hne : (D.toList == s.toList) = false := str_ne hD hcmp
          have hok : Hid (numOk s.data.toList = false) := Lib.hid (num_no hsame.out hnv.out hcmp)
          replace hD := Lib.hid hD
          clear hcmp
          go_wp2_with (go_at_call 17; refine (dec_is ((v : Int)) D hD.out (by omega) (by omega) _).mono ?_; rintro e w' ⟨rfl, hb⟩)
          go_ret2
          exact ⟨ret_num hok.out, hb⟩

theorem number_spec (s : ByteArray) (w : World) (hs : s.size ≤ maxLen) :
    Calls Tryd.prog 19 #[.string s] w fun e w' => e = .returned (.tuple #[.int .i64 (numAns s.data.toList), .bool (numOk s.data.toList)]) ∧ Below w.heap.size w w' := by
  unfold maxLen at hs
  by_cases h0 : s.size = 0
  · have he : s = ByteArray.empty := by
      apply ByteArray.ext
      exact Array.eq_empty_of_size_eq_zero h0
    subst he
    go_enter Tryd.func19, Tryd.ntmps19
    go_wp2
    go_ret2
    exact ⟨ret_num (num_short (by decide)), Below.refl _ _⟩
  · have h0' : 0 < s.size := by omega
    have he1 : s.toList.isEmpty = false := by
      rw [ByteArray.toList_eq]
      cases hl : s.data.toList with
      | nil => exact absurd (show s.data.toList.length = 0 by rw [hl]; rfl) h0
      | cons _ _ => rfl
    have he2 : ¬ s.toList = [] := by
      intro h
      rw [h] at he1
      cases he1
    by_cases h45 : (s[0]'h0').toNat = 45
    · exact number_minus s w hs h0' he1 he2 h45
    · exact number_plain s w hs h0' he1 he2 h45
end Go.Proofs.YtkdpileflddohaaDoor
