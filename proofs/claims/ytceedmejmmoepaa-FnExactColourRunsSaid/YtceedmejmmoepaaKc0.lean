/- Colours: pure; the library's functions that the program calls on them. -/
import Derived.Test.YtceedmejmmoepaaRb8
import Derived.Test.YtceedmejmmoepaaShelf
import Derived.Lib.OthersKept
import Derived.Laws.RangeAny
namespace Go.Proofs.Ytceedmejmmoepaa
open Go.RowKit Go.ChangeShapes Go.WideShapes Go.Deep
set_option linter.unusedVariables false
set_option linter.unusedSimpArgs false

theorem runF_cut (now other : UInt8) (hne : ¬ other = now) (ho : ¬ other.toNat = 32) : ∀ l : List UInt8, (∀ x ∈ l, x = now ∨ x = other ∨ x.toNat = 32) →
    (Lib.indexByte l other < 0 → runF now l = 0) ∧ (∀ i : Nat, Lib.indexByte l other = (i : Int) → runF now l = 1 + runF other (l.drop (i + 1)) ∧ i < l.length)
  | [], _ => ⟨fun _ => rfl, fun i h => by exfalso; simp [Lib.indexByte] at h <;> omega⟩
  | x :: l, hall => by
    obtain ⟨ih1, ih2⟩ := runF_cut now other hne ho l (fun y hy => hall y (by simp [hy]))
    by_cases hx : x = other
    · subst hx
      refine ⟨fun h => ?_, fun i h => ?_⟩
      · simp [Lib.indexByte] at h
      · simp [Lib.indexByte] at h
        obtain rfl : i = 0 := by omega
        refine ⟨?_, by simp⟩
        rw [runF, if_neg (fun h => h.elim ho hne)]; rfl
    · have hxn : x.toNat = 32 ∨ x = now := by
        rcases hall x (by simp) with h | h | h
        · exact .inr h
        · exact absurd h hx
        · exact .inl h
      have hr : runF now (x :: l) = runF now l := by rw [runF, if_pos hxn]
      have hb : (x == other) = false := by simpa using hx
      have hg := Lib.indexByte_ge l other
      rw [hr]
      refine ⟨fun h => ih1 ?_, fun i h => ?_⟩
      · rw [Lib.indexByte, hb] at h
        simp only [Bool.false_eq_true, if_false] at h
        split at h
        · rename_i h1; simp at h1; omega
        · omega
      · rw [Lib.indexByte, hb] at h
        simp only [Bool.false_eq_true, if_false] at h
        split at h
        · omega
        · rename_i h1
          simp at h1
          obtain ⟨j, hj⟩ : ∃ j : Nat, Lib.indexByte l other = (j : Int) := ⟨(Lib.indexByte l other).toNat, by omega⟩
          obtain ⟨h2, h3⟩ := ih2 j hj
          obtain rfl : i = j + 1 := by omega
          exact ⟨by rw [h2, List.drop_succ_cons], by simp; omega⟩
set_option maxRecDepth 100000 in
set_option maxHeartbeats 1600000 in
theorem cut_no14 (s : ByteArray) (c : UInt8) (hi : Lib.indexByte s.data.toList c < 0) (w : World) :
    Calls Try.prog 62 #[.string s, .string ⟨#[c]⟩] w fun e w' => e = .returned (.tuple #[.string s, .string ⟨#[]⟩, .bool false]) ∧ Below w.heap.size w w' := by
  have hx := Lib.hid (fun W => Try.stringslite_Index_one s c W)
  generalize Lib.indexByte s.data.toList c = I at *
  have g1 : decide (0 ≤ I) = false := decide_eq_false (by omega)
  clear hi
  generalize hcc : (⟨#[c]⟩ : ByteArray) = cc at *
  go_enter Try.func62, Try.ntmps62
  go_wp2_with fail
  refine (hx.out _).mono ?_
  rintro e w1 ⟨rfl, rfl⟩
  go_wp2
  go_ret3
  exact ⟨rfl, Below.refl _ _⟩
set_option maxRecDepth 100000 in
set_option maxHeartbeats 1600000 in
theorem cut_yes14 (s : ByteArray) (c : UInt8) (i : Nat) (hi : Lib.indexByte s.data.toList c = (i : Int)) (hlt : i < s.size) (hs : s.size ≤ 1048576) (w : World) :
    Calls Try.prog 62 #[.string s, .string ⟨#[c]⟩] w fun e w' => e = .returned (.tuple #[.string (s.extract 0 i), .string (s.extract (i + 1) s.size), .bool true]) ∧ Below w.heap.size w w' := by
  have hx := Lib.hid (fun W => Try.stringslite_Index_one s c W)
  rw [hi] at hx
  have g1 : decide ((0 : Int) ≤ (i : Int)) = true := decide_eq_true (by omega)
  have hw1 : IntKind.i64.wrap ((i : Int) + 1) = ((i + 1 : Nat) : Int) := by rw [IntWalk.i64_in _ (by omega)]; omega
  have k1 : i ≤ s.size := by omega
  have k2 : (0 : Int) ≤ (i : Int) + 1 := by omega
  have k3 : (i : Int) + 1 ≤ (s.size : Int) := by omega
  have hsl2 := fun W => run_slice_string (P := Try.prog) W 9 s .i64 .i64 ((i + 1 : Nat) : Int) (s.size : Int) Try.underlying9 (by omega) (by omega) (by omega)
  simp only [Int.toNat_natCast] at hsl2
  have hcs : (⟨#[c]⟩ : ByteArray).size = 1 := rfl
  generalize hcc : (⟨#[c]⟩ : ByteArray) = cc at *
  go_enter Try.func62, Try.ntmps62
  go_wp2_with fail
  refine (hx.out _).mono ?_
  rintro e w1 ⟨rfl, rfl⟩
  go_wp2_with fail
  refine wp_region_held_drew (S := fun w' => Below w1.heap.size w1 w') (by kernel_rfl) ?_ (fun hHeld => ?_)
  · exact (Below.refl _ _).drew
  refine wpAnyH_take (i := 0) (v := ?vqU1_0) rfl (by kernel_rfl) (by kernel_rfl) (by kernel_rfl) (fun _ _ _ h => h) (Or.inl ⟨rfl, ?yqU1_0⟩) (by assumption) ?_
  case yqU1_0 => (intro w hSw; (try dsimp only at hSw); go_simp; first | done | with_reducible rfl)
  simp only [List.getElem_toArray, List.getElem_cons_succ, List.getElem_cons_zero, Act.put, List.setIfInBounds_toArray, List.set_cons_zero, List.set_cons_succ]
  refine wpAnyH_take (i := 1) (v := ?vqU1_1) rfl (by kernel_rfl) (by kernel_rfl) (by kernel_rfl) (fun _ _ _ h => h) (Or.inl ⟨rfl, ?yqU1_1⟩) (by assumption) ?_
  case yqU1_1 => (intro w hSw; (try dsimp only at hSw); go_simp; first | done | with_reducible rfl)
  simp only [List.getElem_toArray, List.getElem_cons_succ, List.getElem_cons_zero, Act.put, List.setIfInBounds_toArray, List.set_cons_zero, List.set_cons_succ]
  refine wpAnyH_take (i := 2) (v := ?vqU1_2) rfl (by kernel_rfl) (by kernel_rfl) (by kernel_rfl) (fun _ _ _ h => h) (Or.inl ⟨rfl, ?yqU1_2⟩) (by assumption) ?_
  case yqU1_2 => (intro w hSw; (try dsimp only at hSw); go_simp; first | done | with_reducible rfl)
  simp only [List.getElem_toArray, List.getElem_cons_succ, List.getElem_cons_zero, Act.put, List.setIfInBounds_toArray, List.set_cons_zero, List.set_cons_succ]
  refine wpAnyH_take (i := 3) (v := ?vqU1_3) rfl (by kernel_rfl) (by kernel_rfl) (by kernel_rfl) (fun _ _ _ h => h) (Or.inl ⟨rfl, ?yqU1_3⟩) (by assumption) ?_
  case yqU1_3 => (intro w hSw; (try dsimp only at hSw); go_simp; first | done | with_reducible rfl)
  simp only [List.getElem_toArray, List.getElem_cons_succ, List.getElem_cons_zero, Act.put, List.setIfInBounds_toArray, List.set_cons_zero, List.set_cons_succ]
  refine wpAnyH_take (i := 4) (v := ?vqU1_4) rfl (by kernel_rfl) (by kernel_rfl) (by kernel_rfl) (fun _ _ _ h => h) (Or.inl ⟨rfl, ?yqU1_4⟩) (by assumption) ?_
  case yqU1_4 => (intro w hSw; (try dsimp only at hSw); go_simp; first | done | with_reducible rfl)
  simp only [List.getElem_toArray, List.getElem_cons_succ, List.getElem_cons_zero, Act.put, List.setIfInBounds_toArray, List.set_cons_zero, List.set_cons_succ]
  refine wpAnyH_take (i := 5) (v := ?vqU1_5) rfl (by kernel_rfl) (by kernel_rfl) (by kernel_rfl) (fun _ _ _ h => h) (Or.inl ⟨rfl, ?yqU1_5⟩) (by assumption) ?_
  case yqU1_5 => (intro w hSw; (try dsimp only at hSw); go_simp; first | done | with_reducible rfl)
  simp only [List.getElem_toArray, List.getElem_cons_succ, List.getElem_cons_zero, Act.put, List.setIfInBounds_toArray, List.set_cons_zero, List.set_cons_succ]
  refine wpAnyH_take (i := 6) (v := ?vqU1_6) rfl (by kernel_rfl) (by kernel_rfl) (by kernel_rfl) (fun _ _ _ h => h) (Or.inl ⟨rfl, ?yqU1_6⟩) (by assumption) ?_
  case yqU1_6 => (intro w hSw; (try dsimp only at hSw); go_simp; first | done | with_reducible rfl)
  simp only [List.getElem_toArray, List.getElem_cons_succ, List.getElem_cons_zero, Act.put, List.setIfInBounds_toArray, List.set_cons_zero, List.set_cons_succ]
  refine wpAnyH_take (i := 7) (v := ?vqU1_7) rfl (by kernel_rfl) (by kernel_rfl) (by kernel_rfl) (fun _ _ _ h => h) (Or.inl ⟨rfl, ?yqU1_7⟩) (by assumption) ?_
  case yqU1_7 => (intro w hSw; (try dsimp only at hSw); go_simp; first | done | with_reducible rfl)
  simp only [List.getElem_toArray, List.getElem_cons_succ, List.getElem_cons_zero, Act.put, List.setIfInBounds_toArray, List.set_cons_zero, List.set_cons_succ]
  refine wpAnyH_take (i := 8) (v := ?vqU1_8) rfl (by kernel_rfl) (by kernel_rfl) (by kernel_rfl) (fun _ _ _ h => h) (Or.inl ⟨rfl, ?yqU1_8⟩) (by assumption) ?_
  case yqU1_8 => (intro w hSw; (try dsimp only at hSw); go_simp; first | done | with_reducible rfl)
  simp only [List.getElem_toArray, List.getElem_cons_succ, List.getElem_cons_zero, Act.put, List.setIfInBounds_toArray, List.set_cons_zero, List.set_cons_succ]
  refine wpAnyH_take (i := 9) (v := ?vqU1_9) rfl (by kernel_rfl) (by kernel_rfl) (by kernel_rfl) (fun _ _ _ h => h) (Or.inl ⟨rfl, ?yqU1_9⟩) (by assumption) ?_
  case yqU1_9 => (intro w hSw; (try dsimp only at hSw); go_simp; first | done | with_reducible rfl)
  simp only [List.getElem_toArray, List.getElem_cons_succ, List.getElem_cons_zero, Act.put, List.setIfInBounds_toArray, List.set_cons_zero, List.set_cons_succ]
  refine wpAnyH_take (i := 10) (v := ?vqU1_10) rfl (by kernel_rfl) (by kernel_rfl) (by kernel_rfl) (fun _ _ _ h => h) (Or.inl ⟨rfl, ?yqU1_10⟩) (by assumption) ?_
  case yqU1_10 => (intro w hSw; (try dsimp only at hSw); go_simp; first | done | with_reducible rfl)
  simp only [List.getElem_toArray, List.getElem_cons_succ, List.getElem_cons_zero, Act.put, List.setIfInBounds_toArray, List.set_cons_zero, List.set_cons_succ]
  refine wpAnyH_take (i := 11) (v := ?vqU1_11) rfl (by kernel_rfl) (by kernel_rfl) (by kernel_rfl) (fun _ _ _ h => h) (Or.inl ⟨rfl, ?yqU1_11⟩) (by assumption) ?_
  case yqU1_11 => (intro w hSw; (try dsimp only at hSw); go_simp; first | done | with_reducible rfl)
  simp only [List.getElem_toArray, List.getElem_cons_succ, List.getElem_cons_zero, Act.put, List.setIfInBounds_toArray, List.set_cons_zero, List.set_cons_succ]
  refine wpAnyH_done (by kernel_rfl) ?_ _
  go_wp2
  go_ret3
  exact ⟨rfl, hHeld⟩
set_option maxHeartbeats 1600000 in
theorem scut_no14 (s : ByteArray) (c : UInt8) (hi : Lib.indexByte s.data.toList c < 0) (w : World) :
    Calls Try.prog 59 #[.string s, .string ⟨#[c]⟩] w fun e w' => e = .returned (.tuple #[.string s, .string ⟨#[]⟩, .bool false]) ∧ Below w.heap.size w w' := by
  have hx := Lib.hid (fun W => cut_no14 s c hi W)
  clear hi
  generalize hcc : (⟨#[c]⟩ : ByteArray) = cc at *
  skip
  skip
  go_enter Try.func59, Try.ntmps59
  go_wp2_with fail
  refine (hx.out _).mono ?_
  rintro e w1 ⟨rfl, hb1⟩
  go_wp2
  go_ret3
  exact ⟨rfl, hb1⟩
set_option maxHeartbeats 1600000 in
theorem scut_yes14 (s : ByteArray) (c : UInt8) (i : Nat) (hi : Lib.indexByte s.data.toList c = (i : Int)) (hlt : i < s.size) (hs : s.size ≤ 1048576) (w : World) :
    Calls Try.prog 59 #[.string s, .string ⟨#[c]⟩] w fun e w' => e = .returned (.tuple #[.string (s.extract 0 i), .string (s.extract (i + 1) s.size), .bool true]) ∧ Below w.heap.size w w' := by
  have hx := Lib.hid (fun W => cut_yes14 s c i hi hlt hs W)
  clear hi
  generalize hcc : (⟨#[c]⟩ : ByteArray) = cc at *
  generalize s.extract 0 i = s1 at *
  generalize s.extract (i + 1) s.size = s2 at *
  go_enter Try.func59, Try.ntmps59
  go_wp2_with fail
  refine (hx.out _).mono ?_
  rintro e w1 ⟨rfl, hb1⟩
  go_wp2
  go_ret3
  exact ⟨rfl, hb1⟩
end Go.Proofs.Ytceedmejmmoepaa
