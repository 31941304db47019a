/- What IsName answers, in the program and in the model, for every string; no condition but that the string fits into memory. -/
import Derived.Test.YtkdpileflddohaaProg
import Derived.WalkKit
import Derived.ProofKit
import Derived.Outline
import Derived.LoopTactic
import Derived.Below
import Derived.Lib.Hide
import Derived.Lib.OthersKept
namespace Go.Proofs.Ytkdpileflddohaa
open Go.RowKit
set_option linter.unusedVariables false

def smallB (c : Int) : Bool := decide (97 ≤ c) && decide (c ≤ 122)
def digitB (c : Int) : Bool := decide (48 ≤ c) && decide (c ≤ 57)
def nameB (c : Int) : Bool := smallB c || digitB c || c == 45

theorem ret_bool {a b : Bool} (h : a = b) : Ending.returned (.bool a) = .returned (.bool b) := by rw [h]

theorem small_u8 (c : Int) (w : World) : Calls Try.prog 75 #[.int .u8 c] w fun e w' => e = .returned (.bool (smallB c)) ∧ w = w' := by
  by_cases h1 : 97 ≤ c
  all_goals
    go_enter Try.func75, Try.ntmps75
    go_wp2
    go_ret
    exact ⟨ret_bool (by first | (simp [smallB, h1]; done) | (simp [smallB]; omega)), rfl⟩
theorem digit_u8 (c : Int) (w : World) : Calls Try.prog 76 #[.int .u8 c] w fun e w' => e = .returned (.bool (digitB c)) ∧ w = w' := by
  by_cases h1 : 48 ≤ c
  all_goals
    go_enter Try.func76, Try.ntmps76
    go_wp2
    go_ret
    exact ⟨ret_bool (by first | (simp [digitB, h1]; done) | (simp [digitB]; omega)), rfl⟩
theorem small_i32 (c : Int) (w : World) : Calls Try.prog 77 #[.int .i32 c] w fun e w' => e = .returned (.bool (smallB c)) ∧ w = w' := by
  by_cases h1 : 97 ≤ c
  all_goals
    go_enter Try.func77, Try.ntmps77
    go_wp2
    go_ret
    exact ⟨ret_bool (by first | (simp [smallB, h1]; done) | (simp [smallB]; omega)), rfl⟩
theorem name_i32 (c : Int) (w : World) : Calls Try.prog 78 #[.int .i32 c] w fun e w' => e = .returned (.bool (nameB c)) ∧ w = w' := by
  by_cases h0 : smallB c = true
  · go_enter Try.func78, Try.ntmps78
    go_wp2_with (go_at_call 77; refine (small_i32 _ _).mono ?_; rintro e w' ⟨rfl, rfl⟩)
    go_ret
    exact ⟨ret_bool (by simp [nameB, h0]), rfl⟩
  · have h0' : smallB c = false := by simpa using h0
    clear h0
    by_cases h1 : 48 ≤ c
    · by_cases h2 : c ≤ 57
      · have h3 : digitB c = true := by simp [digitB, h1, h2]
        go_enter Try.func78, Try.ntmps78
        go_wp2_with (go_at_call 77; refine (small_i32 _ _).mono ?_; rintro e w' ⟨rfl, rfl⟩)
        go_ret
        exact ⟨ret_bool (by simp [nameB, h0', h3]), rfl⟩
      · have h2' : decide (c ≤ 57) = false := by simpa using h2
        have h3 : digitB c = false := by simp [digitB, h2']
        have h4 : (c == 45) = false := by simp; omega
        go_enter Try.func78, Try.ntmps78
        go_wp2_with (go_at_call 77; refine (small_i32 _ _).mono ?_; rintro e w' ⟨rfl, rfl⟩)
        go_ret
        exact ⟨ret_bool (by simp [nameB, h0', h3, h4]), rfl⟩
    · have h2' : decide (48 ≤ c) = false := by simpa using h1
      have h3 : digitB c = false := by simp [digitB, h2']
      go_enter Try.func78, Try.ntmps78
      go_wp2_with (go_at_call 77; refine (small_i32 _ _).mono ?_; rintro e w' ⟨rfl, rfl⟩)
      go_ret
      exact ⟨ret_bool (by simp [nameB, h0', h3]), rfl⟩

/-- Is this list of bytes a name: at most 12 bytes, a small letter first, and then letters, digits and hyphens. -/
def isNm (l : List UInt8) : Bool := decide (0 < l.length) && decide (l.length ≤ 12) && smallB ((l.getD 0 0).toNat) && l.all fun c => nameB c.toNat

theorem data_len (s : ByteArray) : s.data.toList.length = s.size := rfl
theorem data_get (s : ByteArray) (k : Nat) (hk : k < s.size) : s.data.toList[k]'hk = s[k]'hk := rfl
theorem isEmpty_false (s : ByteArray) (h : 0 < s.size) : s.toList.isEmpty = false := by
  rw [ByteArray.toList_eq]
  cases hl : s.data.toList with
  | nil => rw [← data_len, hl] at h; cases h
  | cons _ _ => rfl
theorem nil_false (s : ByteArray) (h : 0 < s.size) : ¬ s.toList = [] := by
  rw [ByteArray.toList_eq]
  intro hl
  rw [← data_len, hl] at h; cases h

theorem isNm_long (s : ByteArray) (h : 12 < s.size) : isNm s.data.toList = false := by
  have h' : decide (s.data.toList.length ≤ 12) = false := decide_eq_false (by rw [data_len]; omega)
  unfold isNm
  rw [h']
  simp

theorem isNm_first (s : ByteArray) (hs : 0 < s.size) (h : smallB (s[0]'hs).toNat = false) : isNm s.data.toList = false := by
  have h' : s.data.toList.getD 0 0 = s[0]'hs := by
    rw [List.getD_eq_getElem?_getD, List.getElem?_eq_getElem (by rw [data_len]; exact hs)]
    rfl
  unfold isNm
  rw [h', h]
  simp

theorem isNm_bad (s : ByteArray) (k : Nat) (hk : k < s.size) (h : nameB (s[k]'hk).toNat = false) : isNm s.data.toList = false := by
  have ha : (s.data.toList.all fun c => nameB c.toNat) = false := by
    rw [List.all_eq_false]
    refine ⟨s.data.toList[k]'hk, List.getElem_mem _, ?_⟩
    rw [data_get]
    simp [h]
  unfold isNm
  rw [ha]
  simp

theorem isNm_good (s : ByteArray) (h0 : 0 < s.size) (h12 : s.size ≤ 12) (h1 : smallB (s[0]'h0).toNat = true) (h : ∀ i (hi : i < s.size), nameB (s[i]'hi).toNat = true) : isNm s.data.toList = true := by
  have ha : (s.data.toList.all fun c => nameB c.toNat) = true := by
    rw [List.all_eq_true]
    intro x hx
    obtain ⟨i, hi, rfl⟩ := List.getElem_of_mem hx
    exact h i (by simpa using hi)
  have hf : s.data.toList.getD 0 0 = s[0]'h0 := by
    rw [List.getD_eq_getElem?_getD, List.getElem?_eq_getElem (by rw [data_len]; exact h0)]
    rfl
  unfold isNm
  rw [ha, hf, h1, data_len]
  simp [h0, h12]

theorem nameB_small {c : Int} (h : smallB c = true) : nameB c = true := by simp [nameB, h]
theorem nameB_digit {c : Int} (h : digitB c = true) : nameB c = true := by simp [nameB, h]

theorem size_zero (s : ByteArray) (h : s.size = 0) : s = ByteArray.empty := by
  obtain ⟨⟨l⟩⟩ := s
  cases l with
  | nil => rfl
  | cons a t => cases h

set_option maxHeartbeats 400000 in
theorem isName_spec (s : ByteArray) (w : World) (hs : s.size ≤ maxLen) :
    Calls Try.prog 28 #[.string s] w fun e w' => e = .returned (.bool (isNm s.data.toList)) ∧ w = w' := by
  unfold maxLen at hs
  by_cases h0 : s.size = 0
  · have he := size_zero s h0
    subst he
    go_enter Try.func28, Try.ntmps28
    go_wp2
    go_ret
    exact ⟨rfl, rfl⟩
  · have h0' : 0 < s.size := by omega
    have he1 := isEmpty_false s h0'
    have he2 := nil_false s h0'
    by_cases h12 : 12 < s.size
    · have hl := Lib.hid (isNm_long s h12)
      go_enter Try.func28, Try.ntmps28
      go_wp2
      go_ret
      exact ⟨ret_bool hl.out.symm, rfl⟩
    · by_cases h1 : smallB (s[0]'h0').toNat = true
      · have hgood := Lib.hid (isNm_good s h0' (by omega) h1)
        go_enter Try.func28, Try.ntmps28
        go_wp2_with (go_at_call 75; refine (small_u8 _ _).mono ?_; rintro e w' ⟨rfl, rfl⟩)
        go_loop [3] (fun i => ∃ k : Nat, k ≤ s.size ∧ i = .int .i64 k ∧ ∀ i (hi : i < s.size), i < k → nameB (s[i]'hi).toNat = true) (fun i => s.size - (intOf i).toNat)
        case atStart => exact ⟨0, by omega, rfl, fun i hi hk => absurd hk (by omega)⟩
        case round =>
          obtain ⟨k, hk, rfl, hall⟩ := hrel
          have hall := Lib.hid hall
          clear h1
          by_cases hlt : k < s.size
          · by_cases hnm : nameB (s[k]'hlt).toNat = true
            · have hnext : Hid (∀ i (hi : i < s.size), i < k + 1 → nameB (s[i]'hi).toNat = true) := Lib.hid fun i hi hik => by
                rcases Nat.lt_or_ge i k with h | h
                · exact hall.out i hi h
                · obtain rfl : i = k := by omega
                  exact hnm
              by_cases a1 : smallB (s[k]'hlt).toNat = true
              · clear hnm
                go_wp2_with (go_at_call 75; refine (small_u8 _ _).mono ?_; rintro e w' ⟨rfl, rfl⟩)
                go_round
                case rel => exact ⟨k + 1, by omega, by go_num, hnext.out⟩
                case measure => simp [intOf]; omega
              · have a1' : smallB (s[k]'hlt).toNat = false := by simpa using a1
                clear a1
                by_cases a2 : digitB (s[k]'hlt).toNat = true
                · clear hnm
                  go_wp2_with (first | (go_at_call 75; refine (small_u8 _ _).mono ?_; rintro e w' ⟨rfl, rfl⟩) | (go_at_call 76; refine (digit_u8 _ _).mono ?_; rintro e w' ⟨rfl, rfl⟩))
                  go_round
                  case rel => exact ⟨k + 1, by omega, by go_num, hnext.out⟩
                  case measure => simp [intOf]; omega
                · have a2' : digitB (s[k]'hlt).toNat = false := by simpa using a2
                  clear a2
                  have a3 : (((s[k]'hlt).toNat : Int) == 45) = true := by simpa [nameB, a1', a2'] using hnm
                  clear hnm
                  go_wp2_with (first | (go_at_call 75; refine (small_u8 _ _).mono ?_; rintro e w' ⟨rfl, rfl⟩) | (go_at_call 76; refine (digit_u8 _ _).mono ?_; rintro e w' ⟨rfl, rfl⟩))
                  go_round
                  case rel => exact ⟨k + 1, by omega, by go_num, hnext.out⟩
                  case measure => simp [intOf]; omega
            · have hnm' : nameB (s[k]'hlt).toNat = false := by simpa using hnm
              clear hnm
              have hres := Lib.hid (isNm_bad s k hlt hnm')
              simp only [nameB, Bool.or_eq_false_iff] at hnm'
              obtain ⟨⟨a1, a2⟩, a3⟩ := hnm'
              go_wp2_with (first | (go_at_call 75; refine (small_u8 _ _).mono ?_; rintro e w' ⟨rfl, rfl⟩) | (go_at_call 76; refine (digit_u8 _ _).mono ?_; rintro e w' ⟨rfl, rfl⟩))
              go_ret
              exact ⟨ret_bool hres.out.symm, rfl⟩
          · have hres := Lib.hid (hgood.out fun i hi => hall.out i hi (by omega))
            go_wp2
            go_ret
            exact ⟨ret_bool hres.out.symm, rfl⟩
      · have h1' : smallB (s[0]'h0').toNat = false := by simpa using h1
        clear h1
        have hres := Lib.hid (isNm_first s h0' h1')
        go_enter Try.func28, Try.ntmps28
        go_wp2_with (go_at_call 75; refine (small_u8 _ _).mono ?_; rintro e w' ⟨rfl, rfl⟩)
        go_ret
        exact ⟨ret_bool hres.out.symm, rfl⟩

/-! impl.IsName ranges over runes: the first byte that is none of ASCII gives a rune of at least 128, which is in no name. -/
theorem name_high (c : Int) (h : 128 ≤ c) : nameB c = false := by
  have h1 : smallB c = false := by simp [smallB]; omega
  have h2 : digitB c = false := by simp [digitB]; omega
  have h3 : (c == 45) = false := by simp; omega
  simp [nameB, h1, h2, h3]
theorem small_high (c : Int) (h : 128 ≤ c) : smallB c = false := by simp [smallB]; omega

set_option maxHeartbeats 400000 in
theorem isName_impl (s : ByteArray) (w : World) (hs : s.size ≤ maxLen) :
    Calls Try.prog 29 #[.string s] w fun e w' => e = .returned (.bool (isNm s.data.toList)) ∧ Below w.heap.size w w' := by
  unfold maxLen at hs
  by_cases h0 : s.size = 0
  · have he := size_zero s h0
    subst he
    go_enter Try.func29, Try.ntmps29
    go_wp2
    go_ret
    exact ⟨rfl, Below.refl _ _⟩
  · have h0' : 0 < s.size := by omega
    have h00 : ((s.size : Int) == 0) = false := beq_eq_false_iff_ne.2 (by omega)
    clear h0
    by_cases h12 : 12 < s.size
    · have hl := Lib.hid (isNm_long s h12)
      go_enter Try.func29, Try.ntmps29
      go_wp2
      go_ret
      exact ⟨ret_bool hl.out.symm, Below.refl _ _⟩
    · have hgood := Lib.hid (isNm_good s h0' (by omega))
      have hfirst := Lib.hid (isNm_first s h0')
      go_enter Try.func29, Try.ntmps29
      go_wp2
      go_loopw [] (fun wr => ∃ pos : Nat, wr.heap[w.heap.size]? = some (.stringIter s pos) ∧ Below w.heap.size w wr ∧ pos ≤ s.size ∧ ∀ i (hi : i < s.size), i < pos → nameB (s[i]'hi).toNat = true ∧ (i = 0 → smallB (s[i]'hi).toNat = true)) (fun wr => s.size - wr.iterPos w.heap.size)
      case atStart => exact ⟨0, World.iter_heap w s 0, (Below.refl _ w).alloc (Nat.le_refl _) _, by omega, fun i hi hk => absurd hk (by omega)⟩
      case round =>
        obtain ⟨pos, hit, hbw, hps, hall⟩ := hrel
        have hall := Lib.hid hall
        have hsz : w.heap.size < wr.heap.size := (Array.getElem?_eq_some_iff.1 hit).1
        by_cases hp : pos < s.size
        · have hit2 := fun p' => Lib.iterAt_heap wr w.heap.size s pos p' hit
          have hbw2 := fun p' => Lib.below_iterAt hbw (k := w.heap.size) (Nat.le_refl _) s p'
          by_cases hasc : (s[pos]'hp).toNat < 128
          · have hnx : ∀ ty, (Instr.next (.pointer (some ⟨w.heap.size, 0, none⟩)) true ty).run Try.prog wr = _ := fun ty => Lib.run_next_ascii_at wr w.heap.size s pos ty hit hp hasc
            by_cases hnm : nameB (s[pos]'hp).toNat = true
            · by_cases hz : pos = 0
              · subst hz
                by_cases hsm : smallB (s[0]'h0').toNat = true
                · have hnext : Hid (∀ i (hi : i < s.size), i < 0 + 1 → nameB (s[i]'hi).toNat = true ∧ (i = 0 → smallB (s[i]'hi).toNat = true)) := Lib.hid fun i hi hik => by
                    obtain rfl : i = 0 := by omega
                    exact ⟨hnm, fun _ => hsm⟩
                  go_wp2_with (first | (go_at_call 77; refine (small_i32 _ _).mono ?_; rintro e w' ⟨rfl, rfl⟩) | (go_at_call 78; refine (name_i32 _ _).mono ?_; rintro e w' ⟨rfl, rfl⟩))
                  go_roundw
                  case rel => exact ⟨0 + 1, hit2 _, hbw2 _, by omega, hnext.out⟩
                  case measure => simp only [World.iterPos, hit2, hit]; omega
                · have hsm' : smallB (s[0]'h0').toNat = false := by simpa using hsm
                  have hres := Lib.hid (hfirst.out hsm')
                  clear hsm
                  go_wp2_with (first | (go_at_call 77; refine (small_i32 _ _).mono ?_; rintro e w' ⟨rfl, rfl⟩) | (go_at_call 78; refine (name_i32 _ _).mono ?_; rintro e w' ⟨rfl, rfl⟩))
                  go_ret
                  exact ⟨ret_bool hres.out.symm, hbw2 _⟩
              · have hz' : ((pos : Int) == 0) = false := beq_eq_false_iff_ne.2 (by omega)
                have hnext : Hid (∀ i (hi : i < s.size), i < pos + 1 → nameB (s[i]'hi).toNat = true ∧ (i = 0 → smallB (s[i]'hi).toNat = true)) := Lib.hid fun i hi hik => by
                  rcases Nat.lt_or_ge i pos with h | h
                  · exact hall.out i hi h
                  · obtain rfl : i = pos := by omega
                    exact ⟨hnm, fun h => absurd h hz⟩
                clear hz
                go_wp2_with (first | (go_at_call 77; refine (small_i32 _ _).mono ?_; rintro e w' ⟨rfl, rfl⟩) | (go_at_call 78; refine (name_i32 _ _).mono ?_; rintro e w' ⟨rfl, rfl⟩))
                go_roundw
                case rel => exact ⟨pos + 1, hit2 _, hbw2 _, by omega, hnext.out⟩
                case measure => simp only [World.iterPos, hit2, hit]; omega
            · have hnm' : nameB (s[pos]'hp).toNat = false := by simpa using hnm
              have hres := Lib.hid (isNm_bad s pos hp hnm')
              have hsm' : smallB (s[pos]'hp).toNat = false := by
                simp only [nameB, Bool.or_eq_false_iff] at hnm'
                exact hnm'.1.1
              clear hnm
              by_cases hz : pos = 0
              · subst hz
                go_wp2_with (first | (go_at_call 77; refine (small_i32 _ _).mono ?_; rintro e w' ⟨rfl, rfl⟩) | (go_at_call 78; refine (name_i32 _ _).mono ?_; rintro e w' ⟨rfl, rfl⟩))
                go_ret
                exact ⟨ret_bool hres.out.symm, hbw2 _⟩
              · have hz' : ((pos : Int) == 0) = false := beq_eq_false_iff_ne.2 (by omega)
                clear hz
                go_wp2_with (first | (go_at_call 77; refine (small_i32 _ _).mono ?_; rintro e w' ⟨rfl, rfl⟩) | (go_at_call 78; refine (name_i32 _ _).mono ?_; rintro e w' ⟨rfl, rfl⟩))
                go_ret
                exact ⟨ret_bool hres.out.symm, hbw2 _⟩
          · have hnx : ∀ ty, (Instr.next (.pointer (some ⟨w.heap.size, 0, none⟩)) true ty).run Try.prog wr = _ := fun ty => Lib.run_next_any_at wr w.heap.size s pos ty hit hp
            have hhi := (decode_high s pos hp (by omega)).1
            have hnm' := name_high ((Utf8.decode s pos).1 : Int) (by omega)
            have hsm' := small_high ((Utf8.decode s pos).1 : Int) (by omega)
            have hres := Lib.hid (isNm_bad s pos hp (name_high _ (by omega)))
            by_cases hz : pos = 0
            · subst hz
              go_wp2_with (first | (go_at_call 77; refine (small_i32 _ _).mono ?_; rintro e w' ⟨rfl, rfl⟩) | (go_at_call 78; refine (name_i32 _ _).mono ?_; rintro e w' ⟨rfl, rfl⟩))
              go_ret
              exact ⟨ret_bool hres.out.symm, hbw2 _⟩
            · have hz' : ((pos : Int) == 0) = false := beq_eq_false_iff_ne.2 (by omega)
              clear hz
              go_wp2_with (first | (go_at_call 77; refine (small_i32 _ _).mono ?_; rintro e w' ⟨rfl, rfl⟩) | (go_at_call 78; refine (name_i32 _ _).mono ?_; rintro e w' ⟨rfl, rfl⟩))
              go_ret
              exact ⟨ret_bool hres.out.symm, hbw2 _⟩
        · have hnx : ∀ ty, (Instr.next (.pointer (some ⟨w.heap.size, 0, none⟩)) true ty).run Try.prog wr = _ := fun ty => Lib.run_next_end_at wr w.heap.size s pos ty hit hp
          have hres := Lib.hid (hgood.out ((hall.out 0 h0' (by omega)).2 rfl) fun i hi => (hall.out i hi (by omega)).1)
          go_wp2
          go_ret
          exact ⟨ret_bool hres.out.symm, hbw⟩
end Go.Proofs.Ytkdpileflddohaa
