/- Letters by ascending bytes: the model's insertion, and what is left of all letters. -/
import Derived.Test.YticggclpaalhgaaSpA
namespace Go.Proofs.Yticggclpaalhgaa
open Go.RowKit
set_option linter.unusedVariables false
set_option linter.unusedSimpArgs false

/-- A byte is put into bytes that ascend; each one once. -/
def putL (c : UInt8) : List UInt8 → List UInt8
  | [] => [c]
  | a :: l => if a.toNat < c.toNat then a :: putL c l else if a = c then a :: l else c :: a :: l
theorem putL_front {c : UInt8} : ∀ {l : List UInt8}, (∀ a ∈ l, c.toNat < a.toNat) → putL c l = c :: l
  | [], _ => rfl
  | a :: l, h => by
    have h1 := h a (List.mem_cons_self ..)
    rw [putL, if_neg (by omega), if_neg (fun e => by rw [e] at h1; omega)]
/-- What is put into a part of an ascending list. -/
theorem putL_filter {c : UInt8} {p : UInt8 → Bool} : ∀ {L : List UInt8}, L.Pairwise (fun a b => a.toNat < b.toNat) → c ∈ L → putL c (L.filter p) = L.filter (fun x => p x || x == c)
  | [], _, h => by cases h
  | a :: L, hs, hc => by
    rw [List.pairwise_cons] at hs
    by_cases hac : a = c
    · subst hac
      have h0 : L.filter (fun x => p x || x == a) = L.filter p := List.filter_congr fun x hx => by
        have := hs.1 x hx
        have hne : (x == a) = false := beq_eq_false_iff_ne.2 (fun e => by rw [e] at this; omega)
        rw [hne, Bool.or_false]
      have h1 : (p a || a == a) = true := by simp
      rw [List.filter_cons_of_pos (p := fun x => p x || x == a) h1, h0]
      by_cases hp : p a = true
      · rw [List.filter_cons_of_pos hp, putL, if_neg (by omega), if_pos rfl]
      · rw [List.filter_cons_of_neg hp]
        exact putL_front fun x hx => hs.1 x (List.mem_filter.1 hx).1
    · have hc' : c ∈ L := by
        rcases List.mem_cons.1 hc with rfl | h
        · exact absurd rfl hac
        · exact h
      have hlt := hs.1 c hc'
      have ih := putL_filter (p := p) hs.2 hc'
      have hb : (a == c) = false := beq_eq_false_iff_ne.2 hac
      by_cases hp : p a = true
      · rw [List.filter_cons_of_pos hp, putL, if_pos hlt, ih, List.filter_cons_of_pos (p := fun x => p x || x == c) (by simp [hp])]
      · rw [List.filter_cons_of_neg hp, ih, List.filter_cons_of_neg (p := fun x => p x || x == c) (by simp [hp, hb])]
theorem putL_none {c : UInt8} : ∀ {l : List UInt8} {k : Nat}, (∀ j a, l[j]? = some a → j < k → a.toNat < c.toNat) → (∀ a, l[k]? = some a → c.toNat < a.toNat) → k ≤ l.length → putL c l = l.take k ++ [c] ++ l.drop k
  | [], k, _, _, hk => by
    have : k = 0 := by simpa using hk
    subst this
    rfl
  | a :: l, 0, _, h2, _ => by
    have h3 := h2 a rfl
    rw [putL, if_neg (by omega), if_neg (fun e => by rw [e] at h3; omega)]
    rfl
  | a :: l, k + 1, h1, h2, hk => by
    have h3 := h1 0 a rfl (by omega)
    rw [putL, if_pos h3, putL_none (k := k) (fun j b hj hjk => h1 (j + 1) b hj (by omega)) (fun b hb => h2 b hb) (by simpa using hk)]
    rfl
theorem putL_same {c : UInt8} : ∀ {l : List UInt8} {k : Nat}, (∀ j a, l[j]? = some a → j < k → a.toNat < c.toNat) → l[k]? = some c → putL c l = l
  | [], k, _, h => by simp at h
  | a :: l, 0, _, h => by
    cases h
    rw [putL, if_neg (by omega), if_pos rfl]
  | a :: l, k + 1, h1, h => by
    have h3 := h1 0 a rfl (by omega)
    rw [putL, if_pos h3, putL_same (k := k) (fun j b hj hjk => h1 (j + 1) b hj (by omega)) h]
theorem putL_length (c : UInt8) : ∀ l : List UInt8, (putL c l).length ≤ l.length + 1
  | [] => by simp [putL]
  | a :: l => by
    have ih := putL_length c l
    unfold putL
    split
    · simpa using ih
    · split <;> simp
/-- All letters. -/
def rng : List UInt8 := (List.range 94).map fun i => UInt8.ofNat (33 + i)
theorem rng_length : rng.length = 94 := by simp [rng]
theorem rng_at {i : Nat} (h : i < 94) : rng[i]? = some (UInt8.ofNat (33 + i)) := by simp [rng, h]
theorem rng_val {i : Nat} (h : i < 94) : (UInt8.ofNat (33 + i)).toNat = 33 + i := by
  rw [UInt8.toNat_ofNat']
  omega
theorem rng_asc : rng.Pairwise (fun a b => a.toNat < b.toNat) := by
  rw [rng, List.pairwise_map, List.pairwise_iff_getElem]
  intro i j hi hj hij
  simp only [List.length_range] at hi hj
  rw [List.getElem_range, List.getElem_range, rng_val hi, rng_val hj]
  omega
theorem rng_mem {c : UInt8} (h1 : 33 ≤ c.toNat) (h2 : c.toNat ≤ 126) : c ∈ rng := by
  refine List.mem_map.2 ⟨c.toNat - 33, List.mem_range.2 (by omega), ?_⟩
  apply UInt8.toNat_inj.1
  rw [rng_val (by omega)]
  omega
theorem rng_lt {c : UInt8} (h : c ∈ rng) : 33 ≤ c.toNat ∧ c.toNat ≤ 126 := by
  obtain ⟨i, hi, rfl⟩ := List.mem_map.1 h
  have := List.mem_range.1 hi
  rw [rng_val this]
  omega
theorem rng_put {c : UInt8} {p : UInt8 → Bool} (h : c ∈ rng) : putL c (rng.filter p) = rng.filter (fun x => p x || x == c) := putL_filter rng_asc h
theorem rng_filter_length (p : UInt8 → Bool) : (rng.filter p).length ≤ 94 := Nat.le_trans (List.length_filter_le _ _) (by rw [rng_length]; exact Nat.le_refl _)
theorem arr_list (s : ByteArray) : (⟨s.data.toList.toArray⟩ : ByteArray) = s := by
  apply ByteArray.ext
  simp
theorem put_bytes {s : ByteArray} {c : UInt8} {k : Nat} (hk : k ≤ s.size) (h : putL c s.data.toList = s.data.toList.take k ++ [c] ++ s.data.toList.drop k) : s.extract 0 k ++ ⟨#[c]⟩ ++ s.extract k s.size = ⟨(putL c s.data.toList).toArray⟩ := by
  rw [h]
  apply ByteArray.ext
  have hk' : k ≤ s.data.size := hk
  apply Array.toList_inj.1
  rw [ByteArray.data_append, ByteArray.data_append, Array.toList_append, Array.toList_append, ByteArray.data_extract, ByteArray.data_extract, Array.toList_extract, Array.toList_extract, List.extract_eq_take_drop, List.extract_eq_take_drop, Nat.sub_zero, List.drop_zero]
  rw [List.take_of_length_le (i := s.size - k) (by rw [List.length_drop, Array.length_toList]; exact Nat.le_refl _)]

set_option maxRecDepth 100000 in
set_option maxHeartbeats 3200000 in
theorem put_spec (s : ByteArray) (c : UInt8) (w : World) (hs : s.size ≤ 1048576) :
    Calls Try.prog 60 #[.string s, .string ⟨#[c]⟩] w fun e w' => e = .returned (.string ⟨(putL c s.data.toList).toArray⟩) ∧ Below w.heap.size w w' := by
  have hat : ∀ j (hj : j < s.size), s.data.toList[j]? = some (s[j]'hj) := fun j hj => by
    have hj' : j < s.data.size := hj
    rw [Array.getElem?_toList, Array.getElem?_eq_getElem hj']
    rfl
  replace hat := Lib.hid hat
  have hln : s.data.toList.length = s.size := by rw [Array.length_toList]; rfl
  replace hln := Lib.hid hln
  have hc1 : (⟨#[c]⟩ : ByteArray).size = 1 := rfl
  have hc0 : ((⟨#[c]⟩ : ByteArray)[0]'(by rw [hc1]; omega)) = c := rfl
  go_enter Try.func60, Try.ntmps60
  go_wp2
  go_loopw [5] (fun i wr => ∃ k : Nat, k ≤ s.size ∧ i = .int .i64 k ∧ Below w.heap.size w wr ∧ ∀ j (hj : j < s.size), j < k → (s[j]'hj).toNat < c.toNat) (fun i _ => s.size - (intOf i).toNat)
  case atStart => exact ⟨0, by omega, rfl, Below.refl _ _, fun j hj h => absurd h (by omega)⟩
  case round =>
    obtain ⟨k, hk, rfl, hbw, hall⟩ := hrel
    replace hall := Lib.hid hall
    have hk0 : (0 : Int) ≤ (k : Int) := Int.natCast_nonneg _
    by_cases hlt : k < s.size
    · have hk1 : (k : Int) < (s.size : Int) := by omega
      have hd : decide ((k : Int) < (s.size : Int)) = true := decide_eq_true hk1
      by_cases h1 : (s[k]'hlt).toNat < c.toNat
      · have hnext : Hid (∀ j (hj : j < s.size), j < k + 1 → (s[j]'hj).toNat < c.toNat) := Lib.hid fun j hj h => by
          rcases Nat.lt_or_ge j k with h' | h'
          · exact hall.out j hj h'
          · obtain rfl : j = k := by omega
            exact h1
        have g1 : decide ((s[k]'hlt).toNat < c.toNat) = true := decide_eq_true h1
        have g1' : decide (((s[k]'hlt).toNat : Int) < (c.toNat : Int)) = true := decide_eq_true (by omega)
        replace h1 := Lib.hid h1
        go_wp2_with fail
        go_quiet (fail)
        go_wp2
        go_roundw
        case rel => exact ⟨k + 1, by omega, by go_num, below_drewN hbw _, hnext.out⟩
        case measure => simp [intOf]; omega
      · have hge : c.toNat ≤ (s[k]'hlt).toNat := by omega
        have g1 : decide ((s[k]'hlt).toNat < c.toNat) = false := decide_eq_false h1
        have g1' : decide (((s[k]'hlt).toNat : Int) < (c.toNat : Int)) = false := decide_eq_false (by omega)
        have hbefore : ∀ j a, s.data.toList[j]? = some a → j < k → a.toNat < c.toNat := fun j a hj hjk => by
          have := hat.out j (by omega)
          rw [hj] at this
          cases this
          exact hall.out j (by omega) hjk
        by_cases h2 : s[k]'hlt = c
        · have hr : Hid ((⟨(putL c s.data.toList).toArray⟩ : ByteArray) = s) := Lib.hid (by rw [putL_same hbefore (by rw [hat.out k hlt, h2]), arr_list])
          have g2 : ((s[k]'hlt).toNat == c.toNat) = true := beq_iff_eq.2 (by rw [h2])
          have g2' : (((s[k]'hlt).toNat : Int) == (c.toNat : Int)) = true := beq_iff_eq.2 (by rw [h2])
          replace h1 := Lib.hid h1
          replace h2 := Lib.hid h2
          replace hbefore := Lib.hid hbefore
          go_wp2_with fail
          go_quiet (fail)
          go_wp2_with fail
          go_quiet (fail)
          go_wp2
          go_ret
          exact ⟨ret_st hr.out.symm, below_drewN (below_drewN hbw _) _⟩
        · have hgt : c.toNat < (s[k]'hlt).toNat := by
            have : (s[k]'hlt).toNat ≠ c.toNat := fun e => h2 (UInt8.toNat_inj.1 e)
            omega
          have hr := Lib.hid (put_bytes (c := c) (Nat.le_of_lt hlt) (putL_none hbefore (fun a ha => by rw [hat.out k hlt] at ha; cases ha; exact hgt) (by rw [hln.out]; omega)))
          have g2 : ((s[k]'hlt).toNat == c.toNat) = false := beq_eq_false_iff_ne.2 (by omega)
          have g2' : (((s[k]'hlt).toNat : Int) == (c.toNat : Int)) = false := beq_eq_false_iff_ne.2 (by omega)
          replace h1 := Lib.hid h1
          replace h2 := Lib.hid h2
          replace hbefore := Lib.hid hbefore
          go_wp2_with fail
          go_quiet (fail)
          go_wp2_with fail
          go_quiet (fail)
          go_wp2_with fail
          go_quiet (fail)
          go_wp2
          go_ret
          exact ⟨ret_st hr.out, below_drewN (below_drewN (below_drewN hbw _) _) _⟩
    · obtain rfl : k = s.size := by omega
      have hd : decide ((s.size : Int) < (s.size : Int)) = false := decide_eq_false (by omega)
      have hr := Lib.hid (put_bytes (c := c) (Nat.le_refl s.size) (putL_none (fun j a hj hjk => by
          have := hat.out j hjk
          rw [hj] at this
          cases this
          exact hall.out j hjk hjk) (fun a ha => by rw [List.getElem?_eq_none (by rw [hln.out]; exact Nat.le_refl _)] at ha; cases ha) (by rw [hln.out]; exact Nat.le_refl _)))
      go_wp2_with fail
      go_quiet (fail)
      go_wp2_with fail
      go_quiet (fail)
      go_wp2_with fail
      go_quiet (fail)
      go_wp2
      go_ret
      have hr2 : s ++ ⟨#[c]⟩ = ⟨(putL c s.data.toList).toArray⟩ := by simpa using hr.out
      exact ⟨ret_st hr2, below_drewN (below_drewN (below_drewN hbw _) _) _⟩
theorem put_is (f : UInt8 → Bool) (z : UInt8) (w : World) : Calls Try.prog 60 #[.string ⟨(rng.filter f).toArray⟩, .string ⟨#[z]⟩] w fun e w' => e = .returned (.string ⟨(putL z (rng.filter f)).toArray⟩) ∧ Below w.heap.size w w' := by
  have h := put_spec ⟨(rng.filter f).toArray⟩ z w (by
    show (List.toArray _).size ≤ 1048576
    have := rng_filter_length f
    rw [List.size_toArray]
    omega)
  simpa using h

end Go.Proofs.Yticggclpaalhgaa
