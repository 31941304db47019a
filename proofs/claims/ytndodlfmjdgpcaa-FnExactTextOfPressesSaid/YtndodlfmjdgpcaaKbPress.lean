/- The presses for one letter: the model's function and the program's. -/
import Derived.Test.YtndodlfmjdgpcaaKbText
import Derived.Test.YtndodlfmjdgpcaaPressO
namespace Go.Proofs.Ytndodlfmjdgpcaa
open Go.RowKit Go.ChangeMaps Go.MapKept
set_option linter.unusedVariables false
set_option linter.unusedSimpArgs false

def accOf (s : ByteArray) : List AccentD → Option AccentD
  | [] => none
  | a :: l => if a.made = s then some a else accOf s l
def foundP (o : Option SpotD) : PressD := ⟨foundI o, foundS o⟩
def accPs (ks : List KeyD) (as_ : List AccentD) (s : ByteArray) : List PressD := match accOf s as_ with
  | some a => [foundP (look a.mark (spots 0 ks)), foundP (look a.letter (spots 0 ks))]
  | none => []
/-- The presses that type a letter; none if it cannot be typed. -/
def pressesL (ks : List KeyD) (as_ : List AccentD) (s : ByteArray) : List PressD := match look s (spots 0 ks) with
  | some p => if p.dead = true then accPs ks as_ s else [foundP (some p)]
  | none => accPs ks as_ s
theorem accOf_stop {as_ : List AccentD} {s : ByteArray} {k : Nat} {x : AccentD} (hx : as_[k]? = some x) (he : accOf s as_ = accOf s (as_.drop k)) (h : x.made = s) : accOf s as_ = some x := by
  obtain ⟨h1, rfl⟩ := List.getElem?_eq_some_iff.1 hx
  rw [he, List.drop_eq_getElem_cons h1, accOf, if_pos h]
theorem accOf_step {as_ : List AccentD} {s : ByteArray} {k : Nat} {x : AccentD} (hx : as_[k]? = some x) (he : accOf s as_ = accOf s (as_.drop k)) (h : ¬ x.made = s) : accOf s as_ = accOf s (as_.drop (k + 1)) := by
  obtain ⟨h1, rfl⟩ := List.getElem?_eq_some_iff.1 hx
  rw [he, List.drop_eq_getElem_cons h1, accOf, if_neg h]
theorem accOf_end {as_ : List AccentD} {s : ByteArray} {k : Nat} (hk : as_.length ≤ k) (he : accOf s as_ = accOf s (as_.drop k)) : accOf s as_ = none := by
  rw [he, List.drop_of_length_le hk]
  rfl
theorem press_row0 (w : World) : OPresses (w.alloc (.cells #[] 53)) w.heap.size (some ⟨w.heap.size, 0, none⟩) 0 [] := by
  refine ⟨rfl, .inr ⟨w.heap.size, 0, fun j => undef, rfl, Nat.le_refl _, ⟨_, heap_alloc_new _ _, rfl, fun i hi => absurd hi (by omega)⟩, by omega, fun i x hx => by cases hx⟩⟩
/-- A fresh block of presses. -/
theorem press_row1 (w : World) (a : Int) (b : Bool) : OPresses (w.alloc (.cells #[.int .i64 a, .bool b] 53)) w.heap.size (some ⟨w.heap.size, 0, none⟩) 1 [⟨a, b⟩] := by
  refine ⟨rfl, .inr ⟨w.heap.size, 2, fun j => (#[Value.int .i64 a, .bool b][j]?).getD undef, rfl, Nat.le_refl _, ⟨_, heap_alloc_new _ _, rfl, fun i hi => ?_⟩, by omega, ?_⟩⟩
  · match i, hi with
    | 0, _ => rfl
    | 1, _ => rfl
  · intro i x hx j u hu
    match i, hx with
    | 0, hx =>
      cases hx
      match j, hu with
      | 0, hu => cases hu; exact ⟨by omega, rfl⟩
      | 1, hu => cases hu; exact ⟨by omega, rfl⟩
theorem press_row2 (w : World) (a : Int) (b : Bool) (c : Int) (d : Bool) : OPresses (w.alloc (.cells #[.int .i64 a, .bool b, .int .i64 c, .bool d] 53)) w.heap.size (some ⟨w.heap.size, 0, none⟩) 2 [⟨a, b⟩, ⟨c, d⟩] := by
  refine ⟨rfl, .inr ⟨w.heap.size, 4, fun j => (#[Value.int .i64 a, .bool b, .int .i64 c, .bool d][j]?).getD undef, rfl, Nat.le_refl _, ⟨_, heap_alloc_new _ _, rfl, fun i hi => ?_⟩, by omega, ?_⟩⟩
  · match i, hi with
    | 0, _ => rfl
    | 1, _ => rfl
    | 2, _ => rfl
    | 3, _ => rfl
  · intro i x hx j u hu
    match i, hx with
    | 0, hx =>
      cases hx
      match j, hu with
      | 0, hu => cases hu; exact ⟨by omega, rfl⟩
      | 1, hu => cases hu; exact ⟨by omega, rfl⟩
    | 1, hx =>
      cases hx
      match j, hu with
      | 0, hu => cases hu; exact ⟨by omega, rfl⟩
      | 1, hu => cases hu; exact ⟨by omega, rfl⟩
theorem accPs_of {ks : List KeyD} {as_ : List AccentD} {s : ByteArray} {a : AccentD} (h : accOf s as_ = some a) : accPs ks as_ s = [foundP (look a.mark (spots 0 ks)), foundP (look a.letter (spots 0 ks))] := by rw [accPs, h]
theorem accPs_none {ks : List KeyD} {as_ : List AccentD} {s : ByteArray} (h : accOf s as_ = none) : accPs ks as_ s = [] := by rw [accPs, h]

set_option maxRecDepth 100000 in
set_option maxHeartbeats 3200000 in
theorem presses_spec (A B : Option Addr) (n c m d : Nat) (ks : List KeyD) (as_ : List AccentD) (s : ByteArray) (w : World) (h : Keys w A n ks) (hAs : Accents w B m as_) (hn : n ≤ 1048576) (hm : m ≤ 1048576) (hs : s.size ≤ 1048576) :
    Calls Try.prog 86 #[.slice A n c, .slice B m d, .string s] w fun e w' => ∃ A' n' c', e = .returned (.slice A' n' c') ∧ OPresses w' w.heap.size A' n' (pressesL ks as_ s) ∧ Below w.heap.size w w' := by
  have hfind := fun t => find_spec A n c ks t w h (by unfold maxLen; omega)
  have hf0 := hfind s
  replace hfind := Lib.hid hfind
  cases hl : look s (spots 0 ks) with
  | some p =>
    have hp0 : decide ((0 : Int) ≤ (p.idx : Int)) = true := decide_eq_true (by omega)
    obtain ⟨b0, o0, rfl, hlt0, cd⟩ := dead_at h hl
    have hi0 : (0 : Int) ≤ (p.idx : Int) := Int.natCast_nonneg _
    have hi1 : (p.idx : Int) < (n : Int) := by omega
    replace hf0 := Lib.hid (find_yes (some ⟨b0, o0, none⟩) n c ks s w h (by unfold maxLen; omega) p hl)
    cases hd : p.dead with
    | false =>
      have hacc : Hid (pressesL ks as_ s = [foundP (some p)]) := Lib.hid (by rw [pressesL, hl]; simp [hd])
      rw [hd] at cd
      clear hl hd
      go_enter Try.func86, Try.ntmps86
      go_wp2_with fail
      refine hf0.out.mono ?_
      rintro e w' ⟨rfl, rfl⟩
      go_wp2
      go_ret
      exact ⟨_, _, _, rfl, hacc.out ▸ press_row1 _ _ _, below_a1 _ _⟩
    | true =>
      have hacc : Hid (pressesL ks as_ s = accPs ks as_ s) := Lib.hid (by rw [pressesL, hl]; simp [hd])
      rw [hd] at cd
      clear hl hd
      go_enter Try.func86, Try.ntmps86
      go_wp2_with fail
      refine hf0.out.mono ?_
      rintro e w' ⟨rfl, rfl⟩
      go_wp2
      go_loop [9] (fun i => ∃ k : Nat, k ≤ m ∧ i = .int .i64 k ∧ accOf s as_ = accOf s (as_.drop k)) (fun i => m - (intOf i).toNat)
      case atStart => exact ⟨0, by omega, rfl, rfl⟩
      case round =>
        obtain ⟨k, hk, rfl, he⟩ := hrel
        replace he := Lib.hid he
        by_cases hlt : k < m
        · obtain ⟨b, off, x, rfl, hb, hx, c0, c1, c2⟩ := accent_at hAs hlt
          have hk0 : (0 : Int) ≤ (k : Int) := Int.natCast_nonneg _
          have hk1 : (k : Int) < (m : Int) := by omega
          by_cases h1 : x.made = s
          · have e1 := str_eq_true h1
            have hr := Lib.hid (hacc.out.trans (accPs_of (accOf_stop hx.out he.out h1)))
            clear h1
            go_wp2_with fail
            refine (hfind.out x.mark).mono ?_
            rintro e w' ⟨rfl, rfl⟩
            go_wp2_with fail
            refine (hfind.out x.letter).mono ?_
            rintro e w' ⟨rfl, rfl⟩
            go_wp2
            go_ret
            exact ⟨_, _, _, rfl, hr.out ▸ press_row2 _ _ _ _ _, below_a1 _ _⟩
          · have e1 := str_eq_false h1
            have hnext := Lib.hid (accOf_step hx.out he.out h1)
            clear h1
            go_wp2
            go_round
            case rel => exact ⟨k + 1, by omega, by go_num, hnext.out⟩
            case measure => simp [intOf]; omega
        · have hr := Lib.hid (hacc.out.trans (accPs_none (accOf_end (by rw [hAs.1]; omega) he.out)))
          go_wp2
          go_ret
          exact ⟨_, _, ⟨_, rfl⟩, hr.out ▸ press_row0 _, below_a1 _ _⟩
  | none =>
    have hacc : Hid (pressesL ks as_ s = accPs ks as_ s) := Lib.hid (by rw [pressesL, hl])
    replace hf0 := Lib.hid (find_no A n c ks s w h (by unfold maxLen; omega) hl)
    clear hl
    go_enter Try.func86, Try.ntmps86
    go_wp2_with fail
    refine hf0.out.mono ?_
    rintro e w' ⟨rfl, rfl⟩
    go_wp2
    go_loop [9] (fun i => ∃ k : Nat, k ≤ m ∧ i = .int .i64 k ∧ accOf s as_ = accOf s (as_.drop k)) (fun i => m - (intOf i).toNat)
    case atStart => exact ⟨0, by omega, rfl, rfl⟩
    case round =>
      obtain ⟨k, hk, rfl, he⟩ := hrel
      replace he := Lib.hid he
      by_cases hlt : k < m
      · obtain ⟨b, off, x, rfl, hb, hx, c0, c1, c2⟩ := accent_at hAs hlt
        have hk0 : (0 : Int) ≤ (k : Int) := Int.natCast_nonneg _
        have hk1 : (k : Int) < (m : Int) := by omega
        by_cases h1 : x.made = s
        · have e1 := str_eq_true h1
          have hr := Lib.hid (hacc.out.trans (accPs_of (accOf_stop hx.out he.out h1)))
          clear h1
          go_wp2_with fail
          refine (hfind.out x.mark).mono ?_
          rintro e w' ⟨rfl, rfl⟩
          go_wp2_with fail
          refine (hfind.out x.letter).mono ?_
          rintro e w' ⟨rfl, rfl⟩
          go_wp2
          go_ret
          exact ⟨_, _, _, rfl, hr.out ▸ press_row2 _ _ _ _ _, below_a1 _ _⟩
        · have e1 := str_eq_false h1
          have hnext := Lib.hid (accOf_step hx.out he.out h1)
          clear h1
          go_wp2
          go_round
          case rel => exact ⟨k + 1, by omega, by go_num, hnext.out⟩
          case measure => simp [intOf]; omega
      · have hr := Lib.hid (hacc.out.trans (accPs_none (accOf_end (by rw [hAs.1]; omega) he.out)))
        go_wp2
        go_ret
        exact ⟨_, _, ⟨_, rfl⟩, hr.out ▸ press_row0 _, below_a1 _ _⟩
end Go.Proofs.Ytndodlfmjdgpcaa
