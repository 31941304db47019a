/- SpotOfLetter: the program's function. -/
import Derived.Test.YticggclpaalhgaaFind
import Derived.Deep.QuietTactic
import Derived.BigQuiet
namespace Go.Proofs.Yticggclpaalhgaa
open Go.RowKit Go.ChangeMaps Go.MapKept
set_option linter.unusedVariables false
set_option linter.unusedSimpArgs false

theorem owns_cells {w : World} {base : Nat} {E : TypeId} {size n : Nat} {v : Value} {xs : List Value} (h : w.ownsRow base E size v n xs) (hn : 0 < n) :
    ∃ g cap, v = .slice (some ⟨g, 0, none⟩) n cap ∧ base ≤ g ∧ n ≤ cap ∧ ∀ j u, xs[j]? = some u → w.cell? ⟨g, j, none⟩ = some u := by
  obtain ⟨h1, ⟨_, h2⟩ | ⟨g, cap, cur, rfl, hb, hg, hc, hm, hs, ht⟩⟩ := h
  · omega
  · refine ⟨g, cap, rfl, hb, hc, fun j u hj => ?_⟩
    rw [← ht, List.getElem?_take] at hj
    split at hj
    · refine own_cell hg ?_
      simpa using hj
    · cases hj
theorem flR_one {xs : List ByteArray} {s : ByteArray} : flR xs [s] = (if (spotR xs s).2.2 = 0 then [((spotOf xs s).getD (0, 0))] else [], (spotR xs s).2.2) := by
  unfold flR spotR
  cases layOk xs with
  | false => simp
  | true =>
    cases h : isLet s with
    | false => simp [h]
    | true =>
      cases hp : spotOf xs s with
      | none => simp [h, hp]
      | some p => simp [h, hp]
theorem spotR_ok {xs : List ByteArray} {s : ByteArray} (h : (spotR xs s).2.2 = 0) : spotR xs s = ((((spotOf xs s).getD (0, 0)).1 : Int), (((spotOf xs s).getD (0, 0)).2 : Int), 0) := by
  unfold spotR at h ⊢
  split at h
  · rename_i h1
    split at h
    · rename_i h2
      cases hp : spotOf xs s with
      | none => rw [hp] at h; cases h
      | some p => simp [h1, h2]
    · cases h
  · cases h
theorem spotR_bad {xs : List ByteArray} {s : ByteArray} (h : ¬ (spotR xs s).2.2 = 0) : spotR xs s = (0, 0, (spotR xs s).2.2) := by
  unfold spotR at h ⊢
  split at h
  · rename_i h1
    split at h
    · rename_i h2
      cases hp : spotOf xs s with
      | none => simp [h1, h2]
      | some p => rw [hp] at h; exact absurd rfl h
    · rename_i h2
      simp [h1, h2]
  · rename_i h1
    simp [h1]
theorem strs_lit {w : World} {t : TypeId} {s : ByteArray} {g : Nat} (hg : g = w.heap.size) : Strs (w.alloc (.cells #[.string s] t)) (some ⟨g, 0, none⟩) 1 [s] := by
  subst hg
  refine ⟨rfl, fun _ => ⟨w.heap.size, 0, rfl, by simp, fun i x hx j u hu => ?_⟩⟩
  match i, hx with
  | 0, hx =>
    cases hx
    match j, hu with
    | 0, hu => cases hu; exact cell_new rfl rfl
    | j + 1, hu => simp [strC] at hu
  | i + 1, hx => simp at hx
set_option maxHeartbeats 800000 in
theorem spot_impl (A : Option Addr) (n c : Nat) (xs : List ByteArray) (s : ByteArray) (w : World) (h : Strs w A n xs) (hn : n ≤ 1048576) (hs : ∀ x ∈ xs, x.size ≤ 1048576) (hs1 : s.size ≤ 1048576) :
    Calls Try.prog 24 #[.agg #[.slice A n c], .string s] w fun e w' => e = .returned (.tuple #[.int .i64 (spotR xs s).1, .int .i64 (spotR xs s).2.1, .int .i64 (spotR xs s).2.2]) ∧ Below w.heap.size w w' := by
  have hb0 := Lib.hid (below_a2 w (.cells #[.slice A n c] 27) (.cells #[.string s] 9))
  have hfl := flR_one (xs := xs) (s := s)
  have hok := @spotR_ok xs s
  have hbad := @spotR_bad xs s
  generalize hr : spotR xs s = r at *
  replace hr := Lib.hid hr
  have hcall := Lib.hid (find_any A n c xs (some ⟨w.heap.size + 1, 0, none⟩) 1 1 [s] _ (h.below hb0.out) hn hs (strs_lit (by simp)) (by omega) (by simpa using hs1))
  rw [hfl] at hcall
  obtain ⟨r1, r2, code⟩ := r
  simp only at hcall hok hbad
  by_cases hz : code = 0
  · have he := hok hz
    simp only [Prod.mk.injEq] at he
    obtain ⟨e1, e2, e3⟩ := he
    subst hz
    rw [if_pos rfl] at hcall
    generalize (spotOf xs s).getD (0, 0) = p at *
    clear hok hbad hfl hr
    go_enter Try.func24, Try.ntmps24
    go_wp2_with fail
    refine hcall.out.mono ?_
    rintro e w1 ⟨v, he, hrow, hb1⟩
    obtain rfl : e = .returned (.tuple #[v, .int .i64 0]) := he
    have hrow' : w1.ownsRow _ 61 2 v 1 [.int .i64 (p.1 : Int), .int .i64 (p.2 : Int)] := hrow
    obtain ⟨g, cap, rfl, hg, hc, hcell⟩ := owns_cells hrow' (by simp)
    have d0 : w1.cell? ⟨g, 0, none⟩ = some (.int .i64 (p.1 : Int)) := hcell 0 _ rfl
    have d1 : w1.cell? ⟨g, 1, none⟩ = some (.int .i64 (p.2 : Int)) := hcell 1 _ rfl
    clear hrow'
    have hgl := World.block_lt_of_cell? _ _ d0
    have hbw := Lib.hid (hb0.out.step hb1)
    clear hcell hrow hb1 hcall
    go_wp2_with fail
    go_quiet (fail)
    go_wp2
    go_ret3
    exact ⟨by rw [e1, e2]; rfl, below_drewN hbw.out _⟩
  · have he := hbad hz
    simp only [Prod.mk.injEq] at he
    obtain ⟨e1, e2, e3⟩ := he
    subst e1 e2
    rw [if_neg hz] at hcall
    have g0 : (code == 0) = false := beq_eq_false_iff_ne.2 hz
    have g1 : (code != 0) = true := by simp [hz]
    clear hok hbad hfl hr hz
    go_enter Try.func24, Try.ntmps24
    go_wp2_with fail
    refine hcall.out.mono ?_
    rintro e w1 ⟨v, he, hrow, hb1⟩
    obtain rfl : e = .returned (.tuple #[v, .int .i64 code]) := he
    have hbw := Lib.hid (hb0.out.step hb1)
    clear hrow hb1 hcall
    go_wp2
    go_ret3
    exact ⟨rfl, hbw.out⟩
end Go.Proofs.Yticggclpaalhgaa
