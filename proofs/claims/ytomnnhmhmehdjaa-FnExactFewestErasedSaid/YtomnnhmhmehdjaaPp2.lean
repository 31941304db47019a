/- Corrections: the program's papers, and the places that are wrong. -/
import Derived.Test.YtomnnhmhmehdjaaPp1
namespace Go.Proofs.Ytomnnhmhmehdjaa
open Go.RowKit Go.ChangeShapes Go.WideShapes Go.Deep
set_option linter.unusedVariables false
set_option linter.unusedSimpArgs false

set_option maxRecDepth 100000 in
set_option maxHeartbeats 1600000 in
theorem onp0 (s : ByteArray) (w : World) : Calls Try.prog 78 #[.string s, .slice none 0 0] w fun e w' => e = .returned (.agg #[.string s, .int .i64 0]) ∧ Below w.heap.size w w' := by
  go_enter Try.func78, Try.ntmps78
  go_wp2
  go_loopw [7, 12] (fun _ k wr => k = .int .i64 0 ∧ wr = (w.alloc (.cells #[.string ⟨#[]⟩, .int .i64 0] 108)).alloc (.cells #[.string s, .int .i64 0] 108)) (fun _ _ _ => 0)
  case atStart => exact ⟨rfl, rfl⟩
  case round =>
    obtain ⟨rfl, rfl⟩ := hrel
    go_wp2
    refine bodyPost_ret (v := .agg #[.string s, .int .i64 0]) (by simp [results, Try.results78, go_sem]) rfl ?_
    exact ⟨rfl, below_a2 _ _ _⟩
theorem atL_out {s : ByteArray} {a : Int} (h : a < 0 ∨ (s.size : Int) ≤ a) : atL s a = 32 := by
  rw [atL, if_neg]
  rw [inR_iff]
  omega
theorem difL_pre (t s : ByteArray) : ∀ k, k ≤ 60 → difL t s 0 k = []
  | 0, _ => rfl
  | k + 1, h => by
    rw [difL, difL_pre t s k (by omega), atL_out (.inl (by omega)), atL_out (.inl (by omega)), if_pos rfl]; rfl
theorem difL_mid (t s : ByteArray) : ∀ j, j ≤ 60 → difL t s 0 (60 + j) = plaL (wrongQ t s) j
  | 0, _ => by rw [difL_pre t s 60 (by omega)]; rfl
  | j + 1, h => by
    have e : ((60 + j : Nat) : Int) - 60 = (j : Int) := by omega
    rw [show 60 + (j + 1) = 60 + j + 1 from rfl, difL, difL_mid t s j (by omega), e, Int.sub_zero, plaL_next]
    congr 1
    by_cases hq : (atL t (j : Int)).toNat = (atL s (j : Int)).toNat
    · rw [if_pos hq]; simp [wrongQ, hq]
    · rw [if_neg hq]; simp [wrongQ, hq]
theorem difL_post {t s : ByteArray} (ht : t.size ≤ 60) (hs : s.size ≤ 60) : ∀ j, j ≤ 60 → difL t s 0 (120 + j) = plaL (wrongQ t s) 60
  | 0, _ => difL_mid t s 60 (by omega)
  | j + 1, h => by
    rw [show 120 + (j + 1) = 120 + j + 1 from rfl, difL, difL_post ht hs j (by omega), atL_out (.inr (by omega)), atL_out (.inr (by omega)), if_pos rfl, List.append_nil]
set_option maxRecDepth 100000 in
set_option maxHeartbeats 1600000 in
theorem wp12_impl (t s : ByteArray) (w : World) (ht : t.size ≤ 1048576) (hs : s.size ≤ 1048576) :
    Calls Try.prog 42 #[.string t, .string s] w (IOut (wpR t s) w) := by
  generalize hr : wpR t s = r
  replace hr := Lib.hid hr.symm
  have htm : t.size ≤ maxLen := by unfold maxLen; omega
  have hsm : s.size ≤ maxLen := by unfold maxLen; omega
  cases h1 : lineC t with
  | false =>
    have hres : Hid (r = ([], 2)) := Lib.hid (by rw [hr.out, wpR, h1]; rfl)
    have hc := Lib.hid (fun W => line12i t h1 W htm)
    clear hr h1
    go_enter Try.func42, Try.ntmps42
    go_wp2_with fail
    refine (hc.out _).mono ?_
    rintro e w1 ⟨rfl, rfl⟩
    go_wp2
    go_ret2
    exact IOut.bad hres.out (Below.refl _ _)
  | true =>
    have hc := Lib.hid (fun W => line12i t h1 W htm)
    cases h2 : lineC s with
    | false =>
      have hres : Hid (r = ([], 2)) := Lib.hid (by rw [hr.out, wpR, h1, h2]; rfl)
      have hc2 := Lib.hid (fun W => line12i s h2 W hsm)
      clear hr h1 h2
      go_enter Try.func42, Try.ntmps42
      go_wp2_with fail
      refine (hc.out _).mono ?_
      rintro e w1 ⟨rfl, rfl⟩
      go_wp2_with fail
      refine (hc2.out _).mono ?_
      rintro e w1 ⟨rfl, rfl⟩
      go_wp2
      go_ret2
      exact IOut.bad hres.out (Below.refl _ _)
    | true =>
      have hc2 := Lib.hid (fun W => line12i s h2 W hsm)
      have z1 := lineC_size h1
      have z2 := lineC_size h2
      have hres : Hid (r = (difL t s 0 180, 0)) := Lib.hid (by rw [hr.out, wpR, h1, h2, difL_post z1 z2 60 (by omega)]; rfl)
      have hp1 := Lib.hid (fun W => onp0 t W)
      have hp2 := Lib.hid (fun W => onp0 s W)
      have hd := Lib.hid (fun W => dif12i t s 0 (by omega) W ht hs)
      have hle := shN_le t s 0 180
      have hll := Lib.hid (difL_len t s 0 180)
      generalize difL t s 0 180 = D at *
      generalize shN t s 0 180 = m at *
      clear hr h1 h2
      go_enter Try.func42, Try.ntmps42
      go_wp2_with fail
      refine (hc.out _).mono ?_
      rintro e w1 ⟨rfl, rfl⟩
      go_wp2_with fail
      refine (hc2.out _).mono ?_
      rintro e w1 ⟨rfl, rfl⟩
      go_wp2_with fail
      refine (hp1.out _).mono ?_
      rintro e w1 ⟨rfl, hb1⟩
      go_wp2_with fail
      refine (hp2.out _).mono ?_
      rintro e w2 ⟨rfl, hb2⟩
      go_wp2_with fail
      refine (hd.out _).mono ?_
      rintro e w3 ⟨v, rfl, hrow, hb3⟩
      have hb := (hb1.step hb2)
      obtain ⟨A', c', rfl, hO⟩ := owns_i8 hll.out (owns_mono12 hrow hb.size)
      have hO2 := Lib.hid hO
      have hbz := Lib.hid (hb.step hb3)
      clear hrow hO hb1 hb2 hb3 hb
      go_wp2
      go_ret2
      refine ⟨A', m, c', ?_, by omega, by rw [hres.out]; exact hO2.out, hbz.out⟩
      rw [hres.out]
      rfl
end Go.Proofs.Ytomnnhmhmehdjaa
