/- Corrections: ShiftedMatch of the program. -/
import Derived.Test.YtomnnhmhmehdjaaPp5
namespace Go.Proofs.Ytomnnhmhmehdjaa
open Go.RowKit Go.ChangeShapes Go.WideShapes Go.Deep
set_option linter.unusedVariables false
set_option linter.unusedSimpArgs false

set_option maxRecDepth 100000 in
set_option maxHeartbeats 1600000 in
theorem sm12_impl (t s : ByteArray) (m : Int) (w : World) (ht : t.size ≤ 1048576) (hs : s.size ≤ 1048576) (hwf : (Lit.int .i64 m).wf = true) :
    Calls Try.prog 40 #[.string t, .string s, .int .i64 m] w fun e w' => e = .returned (.tuple #[.int .i64 (smR t s m).1, .int .i64 (smR t s m).2.1, .int .i64 (smR t s m).2.2]) ∧ Below w.heap.size w w' := by
  clear hwf
  generalize hr : smR t s m = r
  replace hr := Lib.hid hr.symm
  have htm : t.size ≤ maxLen := by unfold maxLen; omega
  have hsm : s.size ≤ maxLen := by unfold maxLen; omega
  cases h1 : lineC t with
  | false =>
    have hres : Hid (r = (0, 0, 2)) := Lib.hid (by rw [hr.out, smR, h1]; rfl)
    have hc := Lib.hid (fun W => line12i t h1 W htm)
    clear hr h1
    go_enter Try.func40, Try.ntmps40
    go_wp2_with fail
    refine (hc.out _).mono ?_
    rintro e w1 ⟨rfl, rfl⟩
    go_wp2
    go_ret3
    exact ⟨ret12_3 hres.out, below_a2 _ _ _⟩
  | true =>
    have hc := Lib.hid (fun W => line12i t h1 W htm)
    cases h2 : lineC s with
    | false =>
      have hres : Hid (r = (0, 0, 2)) := Lib.hid (by rw [hr.out, smR, h1, h2]; rfl)
      have hc2 := Lib.hid (fun W => line12i s h2 W hsm)
      clear hr h1 h2
      go_enter Try.func40, Try.ntmps40
      go_wp2_with fail
      refine (hc.out _).mono ?_
      rintro e w1 ⟨rfl, rfl⟩
      go_wp2_with fail
      refine (hc2.out _).mono ?_
      rintro e w1 ⟨rfl, rfl⟩
      go_wp2
      go_ret3
      exact ⟨ret12_3 hres.out, below_a2 _ _ _⟩
    | true =>
      have hc2 := Lib.hid (fun W => line12i s h2 W hsm)
      cases h3 : inR m 0 60 with
      | false =>
        have hres : Hid (r = (0, 0, 2)) := Lib.hid (by rw [hr.out, smR, h1, h2, h3]; rfl)
        have hc3 := Lib.hid (fun W => in8_impl h3 W)
        clear hr h1 h2 h3
        go_enter Try.func40, Try.ntmps40
        go_wp2_with fail
        refine (hc.out _).mono ?_
        rintro e w1 ⟨rfl, rfl⟩
        go_wp2_with fail
        refine (hc2.out _).mono ?_
        rintro e w1 ⟨rfl, rfl⟩
        go_wp2_with fail
        refine (hc3.out _).mono ?_
        rintro e w1 ⟨rfl, rfl⟩
        go_wp2
        go_ret3
        exact ⟨ret12_3 hres.out, below_a2 _ _ _⟩
      | true =>
        have hc3 := Lib.hid (fun W => in8_impl h3 W)
        obtain ⟨m0, m1⟩ := inR_iff.1 h3
        obtain ⟨M, rfl⟩ := Int.eq_ofNat_of_zero_le m0
        have hres : Hid (r = ((flF t s (shL M)).1, (flF t s (shL M)).2, 0)) := Lib.hid (by rw [hr.out, smR, h1, h2, h3, flF_shL]; rfl)
        have hsh := Lib.hid (fun W => shu12 M (by omega) W)
        have hln := Lib.hid (shL_len M)
        have hli := Lib.hid (fun x (hx : x ∈ shL M) => show -60 ≤ x ∧ x ≤ 60 by have := shL_in M x hx; omega)
        generalize shL M = L at *
        have hfl := Lib.hid (fun A c (W : World) h5 h6 (h7 : W.cell? ⟨w.heap.size, 0, none⟩ = some (.string t)) (h8 : W.cell? ⟨w.heap.size + 1, 0, none⟩ = some (.string s)) => fl12i t s w.heap.size (w.heap.size + 1) A (2 * M + 1) c L W h5 (by omega) (by omega) h6 hli.out ht hs h7 h8)
        generalize flF t s L = F at *
        clear hr h1 h2 h3
        go_enter Try.func40, Try.ntmps40
        go_wp2_with fail
        refine (hc.out _).mono ?_
        rintro e w1 ⟨rfl, rfl⟩
        go_wp2_with fail
        refine (hc2.out _).mono ?_
        rintro e w1 ⟨rfl, rfl⟩
        go_wp2_with fail
        refine (hc3.out _).mono ?_
        rintro e w1 ⟨rfl, rfl⟩
        go_wp2_with fail
        refine (hsh.out _).mono ?_
        rintro e w2 ⟨v, rfl, hrow, hb2⟩
        have q0 := cell_step (cell_on (cell_new (w := w) (t := 9) (cs := #[.string t]) (o := 0) rfl rfl) (.cells #[.string s] 9)) hb2
        have q1 := cell_step (cell_new (w := w.alloc (.cells #[.string t] 9)) (t := 9) (cs := #[.string s]) (b := w.heap.size + 1) (o := 0) (by simp) rfl) hb2
        obtain ⟨g, cap, cur, rfl, hgb, hg, hnc, hcm, hcs, htk⟩ : ∃ g cap cur, v = .slice (some ⟨g, 0, none⟩) (2 * M + 1) cap ∧ _ ∧ _ ∧ 2 * M + 1 ≤ cap ∧ _ ∧ _ ∧ _ := by
          rcases hrow.2 with ⟨_, h0⟩ | h0
          · omega
          · obtain ⟨g, cap, cur, a1, a2, a3, a4, a5, a6, a7⟩ := h0
            exact ⟨g, cap, cur, a1, a2, a3, a4, a5, a6, a7⟩
        obtain ⟨A', c', e', hO⟩ := owns_i8 hln.out hrow
        cases e'
        have hI := Lib.hid hO.srow
        clear hrow hg htk hcs hcm hgb
        have hbw := Lib.hid ((below_a2 _ _ _).step hb2)
        have hf1 := Lib.hid (hfl.out _ _ _ hI.out hnc q0 q1)
        clear q0 q1 hb2
        go_wp2_with fail
        refine (hf1.out).mono ?_
        rintro e w3 ⟨rfl, hb3⟩
        go_wp2
        go_ret3
        exact ⟨ret12_3 hres.out, hbw.out.step hb3⟩
end Go.Proofs.Ytomnnhmhmehdjaa
