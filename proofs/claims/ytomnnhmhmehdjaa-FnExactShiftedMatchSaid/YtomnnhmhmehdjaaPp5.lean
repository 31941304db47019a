/- Corrections: all shifts in their order, and the first with the fewest wrong places, by the program. -/
import Derived.Test.YtomnnhmhmehdjaaPp4
namespace Go.Proofs.Ytomnnhmhmehdjaa
open Go.RowKit Go.ChangeShapes Go.WideShapes Go.Deep
set_option linter.unusedVariables false
set_option linter.unusedSimpArgs false

/-- All shifts by at most so many places, in the order in which they are preferred. -/
def shL : Nat → List Int
  | 0 => [0]
  | k + 1 => shL k ++ [-(k : Int) - 1, (k : Int) + 1]
theorem shL_len : ∀ k, (shL k).length = 2 * k + 1
  | 0 => rfl
  | k + 1 => by rw [shL, List.length_append, shL_len k]; simp; omega
theorem shL_in : ∀ k, ∀ x ∈ shL k, -(k : Int) ≤ x ∧ x ≤ (k : Int)
  | 0, x, h => by simp [shL] at h; omega
  | k + 1, x, h => by
    rw [shL, List.mem_append] at h
    rcases h with h | h
    · have := shL_in k x h; omega
    · simp at h; omega
def stepF (t s : ByteArray) (b : Int × Int) (x : Int) : Int × Int := if wroN t s x < b.2 then (x, wroN t s x) else b
/-- The first of the least, of a list. -/
def flF (t s : ByteArray) : List Int → Int × Int
  | [] => (0, 0)
  | x :: r => r.foldl (stepF t s) (x, wroN t s x)
theorem shL_cons : ∀ k, ∃ r, shL k = 0 :: r
  | 0 => ⟨[], rfl⟩
  | k + 1 => by
    obtain ⟨r, h⟩ := shL_cons k
    exact ⟨_, by rw [shL, h]; rfl⟩
theorem flF_shL (t s : ByteArray) : ∀ k, flF t s (shL k) = shB t s k
  | 0 => rfl
  | k + 1 => by
    obtain ⟨r, h⟩ := shL_cons k
    have ih := flF_shL t s k
    rw [h, flF] at ih
    rw [shL, h, List.cons_append, flF, List.foldl_append, ih]
    simp only [List.foldl_cons, List.foldl_nil, stepF, shB]
    rw [show -((k : Int) + 1) = -(k : Int) - 1 by omega]
theorem news2 (w : World) (a b : Value) (T : TypeId) : ∀ j u, [a, b][j]? = some u → (w.alloc (.cells #[a, b] T)).cell? ((⟨w.heap.size, 0, none⟩ : Addr).add j) = some u := by
  intro j u hu
  match j, hu with
  | 0, hu => cases hu; exact cell_new rfl rfl
  | 1, hu => cases hu; exact cell_new rfl rfl
  | j + 2, hu => simp at hu
theorem ones2 (a b : Int) : ∀ u ∈ [Value.int .i64 a, Value.int .i64 b], u.oneCell' = true := by
  intro u hu
  simp only [List.mem_cons, List.not_mem_nil, or_false] at hu
  rcases hu with rfl | rfl <;> rfl
set_option maxRecDepth 100000 in
set_option maxHeartbeats 2400000 in
theorem shu12 (m : Nat) (hm : m ≤ 60) (w : World) : Calls Try.prog 82 #[.int .i64 (m : Int)] w fun e w' => ∃ v, e = .returned v ∧ w'.ownsRow w.heap.size 2 1 v (2 * m + 1) ((shL m).flatMap intC) ∧ Below w.heap.size w w' := by
  obtain ⟨i0, hi, hz0, hz1, hz2⟩ := info_parts Try.infoI64
  go_enter Try.func82, Try.ntmps82
  go_wp2
  go_loopw [3, 7] (fun o a wr => ∃ k : Nat, k ≤ m ∧ a = .int .i64 (k : Int) ∧ wr.ownsRow w.heap.size 2 1 o (2 * k + 1) ((shL k).flatMap intC) ∧ Below w.heap.size w wr) (fun _ a _ => (m - intOf a).toNat)
  case atStart => exact ⟨0, by omega, rfl, ⟨rfl, .inr ⟨w.heap.size, 1, #[.int .i64 0], rfl, Nat.le_refl _, heap_alloc_new _ _, Nat.le_refl _, by unfold maxLen; omega, rfl, rfl⟩⟩, below_a1 _ _⟩
  case round =>
    rename World => wr
    obtain ⟨k, hk, rfl, hrow, hbw⟩ := hrel
    have hwz := hbw.size
    have hrl := Lib.hid hrow
    clear hrow
    by_cases hlt : k < m
    · have hkm : (k : Int) < (m : Int) := by omega
      have hw1 : IntKind.i64.wrap (-(k : Int)) = -(k : Int) := IntWalk.i64_in _ (by omega)
      have hw2 : IntKind.i64.wrap (-(k : Int) - 1) = -(k : Int) - 1 := IntWalk.i64_in _ (by omega)
      have hw3 : IntKind.i64.wrap ((k : Int) + 1) = (k : Int) + 1 := IntWalk.i64_in _ (by omega)
      go_wp2_with (at_builtin; refine wpList_append_own _ rfl _ _ 42 rfl w.heap.size 2 i0 _ 1 8 Try.underlying42 hi hz0 hz1 hz2 rfl (by decide) _ _ _ rfl (hrl.out.alloc _) ⟨wr.heap.size, 0, none⟩ 2 2 [.int .i64 (-(k : Int) - 1), .int .i64 ((k : Int) + 1)] rfl rfl (news2 _ _ _ _) (ones2 _ _) (by unfold maxLen; omega) (by omega) (by simp; omega) ?_)
      intro vq wq hown hgr hnil
      have hgq := grown_trans (grown_below (below_a1 wr _) _) hgr
      have hfin : Hid (wq.ownsRow w.heap.size 2 1 vq (2 * (k + 1) + 1) ((shL (k + 1)).flatMap intC) ∧ Below w.heap.size w wq) := Lib.hid ⟨by rw [shL, List.flatMap_append, show 2 * (k + 1) + 1 = 2 * k + 1 + 2 by omega]; exact hown, hbw.grown hgq hwz (fun j hj => owns_ge8 hrl.out hj)⟩
      clear hown hgr hnil hgq hrl hbw
      go_wp2
      go_roundw
      case rel => exact ⟨k + 1, by omega, by go_num, hfin.out⟩
      case measure => simp [intOf]; omega
    · obtain rfl : k = m := by omega
      go_wp2
      go_ret
      exact ⟨_, rfl, hrl.out, hbw⟩
theorem tail12 {w : World} {A : Option Addr} {n : Nat} {ps : List Int} (h : Ints w A n ps) (c : Nat) (hn : 1 ≤ n) (hc : n ≤ c) : Ints w (if c = 1 then A else A.map (·.add 1)) (n - 1) (ps.drop 1) := by
  refine ⟨by simp [h.1], fun hp => ?_⟩
  obtain ⟨b, off, rfl, hb, hcell⟩ := h.2 (by omega)
  rw [if_neg (by omega)]
  refine ⟨b, off + 1, rfl, hb, fun i x hx j u hu => ?_⟩
  rw [List.getElem?_drop] at hx
  have := hcell (1 + i) x hx j u hu
  rw [← this]
  congr 2
  omega
set_option maxRecDepth 100000 in
set_option maxHeartbeats 2400000 in
theorem fl12i (t s : ByteArray) (b3 b4 : Nat) (A : Option Addr) (n c : Nat) (L : List Int) (w : World) (hL : Ints w A n L) (hn1 : 1 ≤ n) (hn : n ≤ 1000) (hnc : n ≤ c) (hin : ∀ x ∈ L, -60 ≤ x ∧ x ≤ 60) (ht : t.size ≤ 1048576) (hs : s.size ≤ 1048576) (h3 : w.cell? ⟨b3, 0, none⟩ = some (.string t)) (h4 : w.cell? ⟨b4, 0, none⟩ = some (.string s)) :
    Calls Try.prog 81 #[.slice A n c, .func (.func 77) #[] #[.pointer (some ⟨b3, 0, none⟩), .pointer (some ⟨b4, 0, none⟩)]] w fun e w' => e = .returned (.tuple #[.int .i64 (flF t s L).1, .int .i64 (flF t s L).2]) ∧ Below w.heap.size w w' := by
  have hcl := Lib.hid (fun (x : Int) (hx : -60 ≤ x ∧ x ≤ 60) W (a3 : W.cell? ⟨b3, 0, none⟩ = some (.string t)) (a4 : W.cell? ⟨b4, 0, none⟩ = some (.string s)) => wrc12 t s b3 b4 x hx ht hs W a3 a4)
  have hc3 := Lib.hid (fun (W : World) (hb : Below w.heap.size w W) => cell_step h3 hb)
  have hc4 := Lib.hid (fun (W : World) (hb : Below w.heap.size w W) => cell_step h4 hb)
  have hT := Lib.hid (tail12 hL c hn1 hnc)
  obtain ⟨b, off, x0, rfl, hb, hx, c0⟩ := int_at hL (show 0 < n by omega)
  rw [Nat.add_zero] at c0
  have hx0 : -60 ≤ x0 ∧ x0 ≤ 60 := hin x0 (List.mem_of_getElem? hx.out)
  obtain ⟨R, hR⟩ : ∃ R, L = x0 :: R := by
    have hh := hx.out
    cases L with
    | nil => simp at hh
    | cons y R => simp at hh; exact ⟨R, by rw [hh]⟩
  have hRd : L.drop 1 = R := by rw [hR]; rfl
  have hRn : R.length = n - 1 := by have := hL.1; rw [hR] at this; simp at this; omega
  have hRin := Lib.hid (fun y (hy : y ∈ R) => hin y (by rw [hR]; exact List.mem_cons_of_mem _ hy))
  have hfl := Lib.hid (show flF t s L = R.foldl (stepF t s) (x0, wroN t s x0) by rw [hR, flF])
  rw [hRd] at hT
  have k1 : (1 : Int) ≤ (n : Int) := by omega
  have k2 : (1 : Int) ≤ (c : Int) := by omega
  have k3 : (0 : Int) < (n : Int) := by omega
  have k4 : 0 < n := by omega
  have k5 : 1 ≤ c := by omega
  have k6 : (n : Int) ≤ (c : Int) := by omega
  clear hin hL hx h3 h4 hR hRd
  generalize flF t s L = F at *
  have hP0 := Lib.hid (show (R.take 0).foldl (stepF t s) (x0, wroN t s x0) = (x0, wroN t s x0) from rfl)
  have hPn := Lib.hid (fun (k : Nat) (y : Int) (hy : R[k]? = some y) => show (R.take (k + 1)).foldl (stepF t s) (x0, wroN t s x0) = stepF t s ((R.take k).foldl (stepF t s) (x0, wroN t s x0)) y by rw [take8 hy, List.foldl_append]; rfl)
  have hPe := Lib.hid (show (R.take (n - 1)).foldl (stepF t s) (x0, wroN t s x0) = F by rw [List.take_of_length_le (by omega), hfl.out])
  clear hfl
  by_cases hc1 : c = 1
  · have hn01 : n - 1 = 0 := by omega
    rw [if_pos hc1] at hT
    subst hc1
    obtain rfl : n = 1 := by omega
    go_enter Try.func81, Try.ntmps81
    go_wp2_with fail
    refine wp_region_held_drew (S := fun w' => Below w.heap.size w w' ∧ w'.cell? ⟨b, off, none⟩ = some (.int .i64 x0)) (by kernel_rfl) ?_ (fun hHeld => ?_)
    · exact ⟨(Below.refl _ _).drew, cell_step c0 ((Below.refl _ _).drew)⟩
    refine wpAnyH_take (i := 0) (v := ?vaU1_0) rfl (by kernel_rfl) (by kernel_rfl) (by kernel_rfl) (fun _ _ _ h => h) (Or.inl ⟨rfl, ?yaU1_0⟩) (by assumption) ?_
    case yaU1_0 => (intro w hSw; (try dsimp only at hSw); go_simp; first | done | with_reducible rfl)
    simp only [List.getElem_toArray, List.getElem_cons_succ, List.getElem_cons_zero, Act.put, List.setIfInBounds_toArray, List.set_cons_zero, List.set_cons_succ]
    refine wpAnyH_take (i := 1) (v := ?vaU1_1) rfl (by kernel_rfl) (by kernel_rfl) (by kernel_rfl) (fun _ _ _ h => h) (Or.inl ⟨rfl, ?yaU1_1⟩) (by assumption) ?_
    case yaU1_1 => (intro w hSw; (try dsimp only at hSw); go_simp; first | done | with_reducible rfl)
    simp only [List.getElem_toArray, List.getElem_cons_succ, List.getElem_cons_zero, Act.put, List.setIfInBounds_toArray, List.set_cons_zero, List.set_cons_succ]
    refine wpAnyH_take (i := 2) (v := ?vaU1_2) rfl (by kernel_rfl) (by kernel_rfl) (by kernel_rfl) (fun _ _ _ h => h) (Or.inl ⟨rfl, ?yaU1_2⟩) (by assumption) ?_
    case yaU1_2 => (intro w hSw; (try dsimp only at hSw); go_simp; first | done | with_reducible rfl)
    simp only [List.getElem_toArray, List.getElem_cons_succ, List.getElem_cons_zero, Act.put, List.setIfInBounds_toArray, List.set_cons_zero, List.set_cons_succ]
    refine wpAnyH_take (i := 3) (v := ?vaU1_3) rfl (by kernel_rfl) (by kernel_rfl) (by kernel_rfl) (fun _ _ _ h => h) (Or.inl ⟨rfl, ?yaU1_3⟩) (by assumption) ?_
    case yaU1_3 => (intro w hSw; (try dsimp only at hSw); go_simp; first | done | with_reducible rfl)
    simp only [List.getElem_toArray, List.getElem_cons_succ, List.getElem_cons_zero, Act.put, List.setIfInBounds_toArray, List.set_cons_zero, List.set_cons_succ]
    refine wpAnyH_take (i := 4) (v := ?vaU1_4) rfl (by kernel_rfl) (by kernel_rfl) (by kernel_rfl) (fun _ _ _ h => h) (Or.inl ⟨rfl, ?yaU1_4⟩) (by assumption) ?_
    case yaU1_4 => (intro w hSw; (try dsimp only at hSw); go_simp; first | done | with_reducible rfl)
    simp only [List.getElem_toArray, List.getElem_cons_succ, List.getElem_cons_zero, Act.put, List.setIfInBounds_toArray, List.set_cons_zero, List.set_cons_succ]
    refine wpAnyH_take (i := 5) (v := ?vaU1_5) rfl (by kernel_rfl) (by kernel_rfl) (by kernel_rfl) (fun _ _ _ h => h) (Or.inl ⟨rfl, ?yaU1_5⟩) (by assumption) ?_
    case yaU1_5 => (intro w hSw; (try dsimp only at hSw); go_simp; first | done | with_reducible rfl)
    simp only [List.getElem_toArray, List.getElem_cons_succ, List.getElem_cons_zero, Act.put, List.setIfInBounds_toArray, List.set_cons_zero, List.set_cons_succ]
    refine wpAnyH_take (i := 6) (v := ?vaU1_6) rfl (by kernel_rfl) (by kernel_rfl) (by kernel_rfl) (fun _ _ _ h => h) (Or.inl ⟨rfl, ?yaU1_6⟩) (by assumption) ?_
    case yaU1_6 => (intro w hSw; (try dsimp only at hSw); go_simp; first | done | with_reducible rfl)
    simp only [List.getElem_toArray, List.getElem_cons_succ, List.getElem_cons_zero, Act.put, List.setIfInBounds_toArray, List.set_cons_zero, List.set_cons_succ]
    refine wpAnyH_ready (rs := [7]) (by kernel_rfl) (by simp) ?_
    refine AllReadyH.cons rfl (fun K hK => ?_) AllReadyH.nil
    go_simp
    refine (hcl.out x0 hx0 _ (hc3.out _ hHeld.1) (hc4.out _ hHeld.1)).mono ?_
    rintro e w5 ⟨rfl, hb5⟩
    go_wp2_with fail
    refine hK.out _ _ ?_ (fun hHeld => ?_)
    · exact ⟨hHeld.1.step hb5, cell_step hHeld.2 hb5⟩
    clear hK K
    try simp only [List.getElem_toArray, List.getElem_cons_succ, List.getElem_cons_zero, Act.put, List.setIfInBounds_toArray, List.set_cons_zero, List.set_cons_succ]
    refine wpAnyH_take (i := 8) (v := ?vaU1_8) rfl (by kernel_rfl) (by kernel_rfl) (by kernel_rfl) (fun _ _ _ h => h) (Or.inl ⟨rfl, ?yaU1_8⟩) (by assumption) ?_
    case yaU1_8 => (intro w hSw; (try dsimp only at hSw); go_simp; first | done | with_reducible rfl)
    simp only [List.getElem_toArray, List.getElem_cons_succ, List.getElem_cons_zero, Act.put, List.setIfInBounds_toArray, List.set_cons_zero, List.set_cons_succ]
    refine wpAnyH_take (i := 9) (v := ?vaU1_9) rfl (by kernel_rfl) (by kernel_rfl) (by kernel_rfl) (fun _ _ _ h => h) (Or.inl ⟨rfl, ?yaU1_9⟩) (by assumption) ?_
    case yaU1_9 => (intro w hSw; (try dsimp only at hSw); go_simp; first | done | with_reducible rfl)
    simp only [List.getElem_toArray, List.getElem_cons_succ, List.getElem_cons_zero, Act.put, List.setIfInBounds_toArray, List.set_cons_zero, List.set_cons_succ]
    refine wpAnyH_done (by kernel_rfl) ?_ _
    obtain ⟨hbw0, _⟩ := hHeld
    clear hb5
    go_wp2
    have hres : Hid (F = (x0, wroN t s x0)) := Lib.hid (hPe.out.symm.trans hP0.out)
    go_loopw [6, 7, 22] (fun f l i wr => i = .int .i64 0 ∧ f = .int .i64 x0 ∧ l = .int .i64 (wroN t s x0) ∧ Below w.heap.size w wr) (fun _ _ _ _ => 0)
    case atStart => exact ⟨rfl, rfl, rfl, hbw0⟩
    case round =>
      obtain ⟨rfl, rfl, rfl, hbw⟩ := hrel
      go_wp2
      go_ret2
      exact ⟨by rw [hres.out]; rfl, hbw⟩
  · rw [if_neg hc1] at hT
    simp only [Option.map_some] at hT
    go_enter Try.func81, Try.ntmps81
    go_wp2_with fail
    refine wp_region_held_drew (S := fun w' => Below w.heap.size w w' ∧ w'.cell? ⟨b, off, none⟩ = some (.int .i64 x0)) (by kernel_rfl) ?_ (fun hHeld => ?_)
    · exact ⟨(Below.refl _ _).drew, cell_step c0 ((Below.refl _ _).drew)⟩
    refine wpAnyH_take (i := 0) (v := ?vbU2_0) rfl (by kernel_rfl) (by kernel_rfl) (by kernel_rfl) (fun _ _ _ h => h) (Or.inl ⟨rfl, ?ybU2_0⟩) (by assumption) ?_
    case ybU2_0 => (intro w hSw; (try dsimp only at hSw); go_simp; first | done | with_reducible rfl)
    simp only [List.getElem_toArray, List.getElem_cons_succ, List.getElem_cons_zero, Act.put, List.setIfInBounds_toArray, List.set_cons_zero, List.set_cons_succ]
    refine wpAnyH_take (i := 1) (v := ?vbU2_1) rfl (by kernel_rfl) (by kernel_rfl) (by kernel_rfl) (fun _ _ _ h => h) (Or.inl ⟨rfl, ?ybU2_1⟩) (by assumption) ?_
    case ybU2_1 => (intro w hSw; (try dsimp only at hSw); go_simp; first | done | with_reducible rfl)
    simp only [List.getElem_toArray, List.getElem_cons_succ, List.getElem_cons_zero, Act.put, List.setIfInBounds_toArray, List.set_cons_zero, List.set_cons_succ]
    refine wpAnyH_take (i := 2) (v := ?vbU2_2) rfl (by kernel_rfl) (by kernel_rfl) (by kernel_rfl) (fun _ _ _ h => h) (Or.inl ⟨rfl, ?ybU2_2⟩) (by assumption) ?_
    case ybU2_2 => (intro w hSw; (try dsimp only at hSw); go_simp; first | done | with_reducible rfl)
    simp only [List.getElem_toArray, List.getElem_cons_succ, List.getElem_cons_zero, Act.put, List.setIfInBounds_toArray, List.set_cons_zero, List.set_cons_succ]
    refine wpAnyH_take (i := 3) (v := ?vbU2_3) rfl (by kernel_rfl) (by kernel_rfl) (by kernel_rfl) (fun _ _ _ h => h) (Or.inl ⟨rfl, ?ybU2_3⟩) (by assumption) ?_
    case ybU2_3 => (intro w hSw; (try dsimp only at hSw); go_simp; first | done | with_reducible rfl)
    simp only [List.getElem_toArray, List.getElem_cons_succ, List.getElem_cons_zero, Act.put, List.setIfInBounds_toArray, List.set_cons_zero, List.set_cons_succ]
    refine wpAnyH_take (i := 4) (v := ?vbU2_4) rfl (by kernel_rfl) (by kernel_rfl) (by kernel_rfl) (fun _ _ _ h => h) (Or.inl ⟨rfl, ?ybU2_4⟩) (by assumption) ?_
    case ybU2_4 => (intro w hSw; (try dsimp only at hSw); go_simp; first | done | with_reducible rfl)
    simp only [List.getElem_toArray, List.getElem_cons_succ, List.getElem_cons_zero, Act.put, List.setIfInBounds_toArray, List.set_cons_zero, List.set_cons_succ]
    refine wpAnyH_take (i := 5) (v := ?vbU2_5) rfl (by kernel_rfl) (by kernel_rfl) (by kernel_rfl) (fun _ _ _ h => h) (Or.inl ⟨rfl, ?ybU2_5⟩) (by assumption) ?_
    case ybU2_5 => (intro w hSw; (try dsimp only at hSw); go_simp; first | done | with_reducible rfl)
    simp only [List.getElem_toArray, List.getElem_cons_succ, List.getElem_cons_zero, Act.put, List.setIfInBounds_toArray, List.set_cons_zero, List.set_cons_succ]
    refine wpAnyH_take (i := 6) (v := ?vbU2_6) rfl (by kernel_rfl) (by kernel_rfl) (by kernel_rfl) (fun _ _ _ h => h) (Or.inl ⟨rfl, ?ybU2_6⟩) (by assumption) ?_
    case ybU2_6 => (intro w hSw; (try dsimp only at hSw); go_simp; first | done | with_reducible rfl)
    simp only [List.getElem_toArray, List.getElem_cons_succ, List.getElem_cons_zero, Act.put, List.setIfInBounds_toArray, List.set_cons_zero, List.set_cons_succ]
    refine wpAnyH_ready (rs := [7]) (by kernel_rfl) (by simp) ?_
    refine AllReadyH.cons rfl (fun K hK => ?_) AllReadyH.nil
    go_simp
    refine (hcl.out x0 hx0 _ (hc3.out _ hHeld.1) (hc4.out _ hHeld.1)).mono ?_
    rintro e w5 ⟨rfl, hb5⟩
    go_wp2_with fail
    refine hK.out _ _ ?_ (fun hHeld => ?_)
    · exact ⟨hHeld.1.step hb5, cell_step hHeld.2 hb5⟩
    clear hK K
    try simp only [List.getElem_toArray, List.getElem_cons_succ, List.getElem_cons_zero, Act.put, List.setIfInBounds_toArray, List.set_cons_zero, List.set_cons_succ]
    refine wpAnyH_take (i := 8) (v := ?vbU2_8) rfl (by kernel_rfl) (by kernel_rfl) (by kernel_rfl) (fun _ _ _ h => h) (Or.inl ⟨rfl, ?ybU2_8⟩) (by assumption) ?_
    case ybU2_8 => (intro w hSw; (try dsimp only at hSw); go_simp; first | done | with_reducible rfl)
    simp only [List.getElem_toArray, List.getElem_cons_succ, List.getElem_cons_zero, Act.put, List.setIfInBounds_toArray, List.set_cons_zero, List.set_cons_succ]
    refine wpAnyH_take (i := 9) (v := ?vbU2_9) rfl (by kernel_rfl) (by kernel_rfl) (by kernel_rfl) (fun _ _ _ h => h) (Or.inl ⟨rfl, ?ybU2_9⟩) (by assumption) ?_
    case ybU2_9 => (intro w hSw; (try dsimp only at hSw); go_simp; first | done | with_reducible rfl)
    simp only [List.getElem_toArray, List.getElem_cons_succ, List.getElem_cons_zero, Act.put, List.setIfInBounds_toArray, List.set_cons_zero, List.set_cons_succ]
    refine wpAnyH_done (by kernel_rfl) ?_ _
    obtain ⟨hbw0, _⟩ := hHeld
    clear hb5
    go_wp2
    obtain ⟨A3, hA3⟩ : ∃ A3 : Option Addr, some ((⟨b, off, none⟩ : Addr).add 1) = A3 := ⟨_, rfl⟩
    rw [hA3] at hT
    have e3 : some (⟨b, off + 1, none⟩ : Addr) = A3 := hA3
    rw [e3]
    clear hA3 e3 c0
    generalize hm : n - 1 = m at *
    go_loopw [6, 7, 22] (fun f l i wr => ∃ k : Nat, k ≤ m ∧ i = .int .i64 (k : Int) ∧ f = .int .i64 ((R.take k).foldl (stepF t s) (x0, wroN t s x0)).1 ∧ l = .int .i64 ((R.take k).foldl (stepF t s) (x0, wroN t s x0)).2 ∧ Below w.heap.size w wr) (fun _ _ i _ => (m - intOf i).toNat)
    case atStart => exact ⟨0, by omega, rfl, by rw [hP0.out], by rw [hP0.out], hbw0⟩
    case round =>
      clear hbw0
      rename World => wr
      obtain ⟨k, hk, rfl, rfl, rfl, hbw⟩ := hrel
      by_cases hlt : k < m
      · obtain ⟨b', off', y, e, hb', hy, d0⟩ := int_at (hT.out.below hbw) hlt
        subst e
        have hnx := Lib.hid (hPn.out k y hy.out)
        have hyin := hRin.out y (List.mem_of_getElem? hy.out)
        have hcl1 := Lib.hid (hcl.out y hyin wr (hc3.out _ hbw) (hc4.out _ hbw))
        generalize (R.take k).foldl (stepF t s) (x0, wroN t s x0) = P at *
        obtain ⟨p1, p2⟩ := P
        have hw1 : IntKind.i64.wrap ((k : Int) + 1) = ((k + 1 : Nat) : Int) := by rw [IntWalk.i64_in _ (by omega)]; omega
        have k0 : (0 : Int) ≤ (k : Int) := by omega
        have k1' : (k : Int) < (m : Int) := by omega
        by_cases hlp : wroN t s y < p2
        · have g4 : decide (wroN t s y < p2) = true := decide_eq_true hlp
          have hq : Hid ((R.take (k + 1)).foldl (stepF t s) (x0, wroN t s x0) = (y, wroN t s y)) := Lib.hid (by rw [hnx.out, stepF, if_pos hlp])
          clear hnx
          generalize wroN t s y = Y at *
          go_wp2_with fail
          refine (hcl1.out).mono ?_
          rintro e w1 ⟨rfl, hb1⟩
          have hbn := Lib.hid (hbw.step hb1)
          clear hbw hb1 hcl1
          go_wp2
          go_roundw
          case rel => exact ⟨k + 1, by omega, by go_num, by rw [hq.out], by rw [hq.out], hbn.out⟩
          case measure => simp [intOf]; omega
        · have g4 : decide (wroN t s y < p2) = false := decide_eq_false hlp
          have hq : Hid ((R.take (k + 1)).foldl (stepF t s) (x0, wroN t s x0) = (p1, p2)) := Lib.hid (by rw [hnx.out, stepF, if_neg hlp])
          clear hnx
          generalize wroN t s y = Y at *
          go_wp2_with fail
          refine (hcl1.out).mono ?_
          rintro e w1 ⟨rfl, hb1⟩
          have hbn := Lib.hid (hbw.step hb1)
          clear hbw hb1 hcl1
          go_wp2
          go_roundw
          case rel => exact ⟨k + 1, by omega, by go_num, by rw [hq.out], by rw [hq.out], hbn.out⟩
          case measure => simp [intOf]; omega
      · obtain rfl : k = m := by omega
        rw [hPe.out]
        go_wp2
        go_ret2
        exact ⟨rfl, hbw⟩
end Go.Proofs.Ytomnnhmhmehdjaa
