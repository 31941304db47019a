/- SpotOfLetter: the model's function and the program's; what the program finds of several letters. -/
import Derived.Test.YticggclpaalhgaaSpB
import Derived.Test.YticggclpaalhgaaRdC
import Derived.Laws.NewBlocks
import Derived.Deep.AppendLies
namespace Go.Proofs.Yticggclpaalhgaa
open Go.RowKit Go.ChangeMaps Go.MapKept
set_option linter.unusedVariables false
set_option linter.unusedSimpArgs false

/-- The first byte of a letter's spot. -/
def spotOf (xs : List ByteArray) (s : ByteArray) : Option (Nat × Nat) := match s.data.toList with
  | [c] => look6 c (keysFrom 0 xs)
  | _ => none
def spotR (xs : List ByteArray) (s : ByteArray) : Int × Int × Int :=
  if layOk xs = true then (if isLet s = true then (match spotOf xs s with | some p => ((p.1 : Int), (p.2 : Int), 0) | none => (0, 0, 3)) else (0, 0, 2)) else (0, 0, 1)
theorem isLet_is6 {s : ByteArray} (h : isLet s = true) : ∃ z, s = ⟨#[z]⟩ := by
  obtain ⟨⟨l⟩⟩ := s
  match l, h with
  | [c], _ => exact ⟨c, rfl⟩
  | [], h => cases h
  | _ :: _ :: _, h => cases h
theorem ret_3 {p : Int × Int × Int} {a b c : Int} (h : p = (a, b, c)) : Ending.returned (.tuple #[.int .i64 a, .int .i64 b, .int .i64 c]) = .returned (.tuple #[.int .i64 p.1, .int .i64 p.2.1, .int .i64 p.2.2]) := by rw [h]
set_option maxHeartbeats 800000 in
theorem spot_spec (A : Option Addr) (n c : Nat) (xs : List ByteArray) (s : ByteArray) (w : World) (h : Strs w A n xs) (hn : n ≤ 1048576) (hs : ∀ x ∈ xs, x.size ≤ 1048576) (hs1 : s.size ≤ 1048576) :
    Calls Try.prog 23 #[.agg #[.slice A n c], .string s] w fun e w' => e = .returned (.tuple #[.int .i64 (spotR xs s).1, .int .i64 (spotR xs s).2.1, .int .i64 (spotR xs s).2.2]) ∧ Below w.heap.size w w' := by
  generalize hr : spotR xs s = r
  replace hr := Lib.hid hr.symm
  have hb0 := Lib.hid (below_a1 w (.cells #[.slice A n c] 27))
  have hS := h.below hb0.out
  cases h1 : layOk xs with
  | false =>
    have hres : Hid (r = (0, 0, 1)) := Lib.hid (by rw [hr.out]; simp [spotR, h1])
    have hq := Lib.hid (ok6_spec w.heap.size A n c xs _ (cell_new rfl rfl) hS hn hs false h1)
    clear h1 hr
    go_enter Try.func23, Try.ntmps23
    go_wp2_with fail
    refine hq.out.mono ?_
    rintro e w1 ⟨rfl, hb1⟩
    have hbw := Lib.hid (hb0.out.step hb1)
    go_wp2
    refine bodyPost_ret (v := .tuple #[.int .i64 0, .int .i64 0, .int .i64 1]) (by simp [results, Try.results23, go_sem]) rfl ?_
    exact ⟨ret_3 hres.out, hbw.out⟩
  | true =>
    have hq := Lib.hid (ok6_spec w.heap.size A n c xs _ (cell_new rfl rfl) hS hn hs true h1)
    cases h2 : isLet s with
    | false =>
      have hres : Hid (r = (0, 0, 2)) := Lib.hid (by rw [hr.out]; simp [spotR, h1, h2])
      have hq2 := Lib.hid (fun W => letter_spec s false h2 W (by unfold maxLen; omega))
      clear h1 h2 hr
      go_enter Try.func23, Try.ntmps23
      go_wp2_with fail
      refine hq.out.mono ?_
      rintro e w1 ⟨rfl, hb1⟩
      have hbw := Lib.hid (hb0.out.step hb1)
      go_wp2_with fail
      refine (hq2.out _).mono ?_
      rintro e w2 ⟨rfl, rfl⟩
      go_wp2
      refine bodyPost_ret (v := .tuple #[.int .i64 0, .int .i64 0, .int .i64 2]) (by simp [results, Try.results23, go_sem]) rfl ?_
      exact ⟨ret_3 hres.out, hbw.out⟩
    | true =>
      have hq2 := Lib.hid (fun W => letter_spec s true h2 W (by unfold maxLen; omega))
      obtain ⟨z, rfl⟩ := isLet_is6 h2
      have hcall := Lib.hid (fun W (hW : Strs W A n xs) => at_spec A n c xs z W hW hn hs _ rfl)
      have hrr : Hid (r = (match look6 z (keysFrom 0 xs) with | some p => ((p.1 : Int), (p.2 : Int), 0) | none => (0, 0, 3))) := Lib.hid (by rw [hr.out]; simp only [spotR, h1, h2, if_true]; rfl)
      clear h1 h2 hr
      cases hl : look6 z (keysFrom 0 xs) with
      | none =>
        have hres : Hid (r = (0, 0, 3)) := Lib.hid (by rw [hrr.out, hl])
        rw [hl] at hcall
        simp only [atI] at hcall
        clear hl hrr
        go_enter Try.func23, Try.ntmps23
        go_wp2_with fail
        refine hq.out.mono ?_
        rintro e w1 ⟨rfl, hb1⟩
        have hbw := Lib.hid (hb0.out.step hb1)
        have hS1 := hS.below hb1
        have k1 := cell_step (cell_new (w := w) (cs := #[.slice A n c]) (t := 27) (b := w.heap.size) (o := 0) rfl rfl) hb1
        go_wp2_with fail
        refine (hq2.out _).mono ?_
        rintro e w2 ⟨rfl, rfl⟩
        go_wp2_with fail
        go_quiet ((go_at_call 57; refine quiet_l (hcall.out _ ?_); exact hS1.drewN _))
        go_wp2
        refine bodyPost_ret (v := .tuple #[.int .i64 0, .int .i64 0, .int .i64 3]) (by simp [results, Try.results23, go_sem]) rfl ?_
        exact ⟨ret_3 hres.out, below_drewN hbw.out _⟩
      | some p =>
        have hres : Hid (r = ((p.1 : Int), (p.2 : Int), 0)) := Lib.hid (by rw [hrr.out, hl])
        rw [hl] at hcall
        simp only [atI] at hcall
        have g0 : decide ((p.1 : Int) < 0) = false := decide_eq_false (by omega)
        clear hl hrr
        go_enter Try.func23, Try.ntmps23
        go_wp2_with fail
        refine hq.out.mono ?_
        rintro e w1 ⟨rfl, hb1⟩
        have hbw := Lib.hid (hb0.out.step hb1)
        have hS1 := hS.below hb1
        have k1 := cell_step (cell_new (w := w) (cs := #[.slice A n c]) (t := 27) (b := w.heap.size) (o := 0) rfl rfl) hb1
        go_wp2_with fail
        refine (hq2.out _).mono ?_
        rintro e w2 ⟨rfl, rfl⟩
        go_wp2_with fail
        go_quiet ((go_at_call 57; refine quiet_l (hcall.out _ ?_); exact hS1.drewN _))
        go_wp2
        refine bodyPost_ret (v := .tuple #[.int .i64 (p.1 : Int), .int .i64 (p.2 : Int), .int .i64 0]) (by simp [results, Try.results23, go_sem]) rfl ?_
        exact ⟨ret_3 hres.out, below_drewN hbw.out _⟩
end Go.Proofs.Yticggclpaalhgaa
