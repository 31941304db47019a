/- ExchangePlan, the model's function. -/
import Derived.Test.YticggclpaalhgaaPln1
import Derived.Test.YticggclpaalhgaaMvd
namespace Go.Proofs.Yticggclpaalhgaa
open Go.RowKit Go.ChangeShapes Go.WideShapes Go.Deep
set_option linter.unusedVariables false
set_option linter.unusedSimpArgs false

theorem flat6_le : ∀ {l : List ByteArray}, (∀ s ∈ l, s.size ≤ 12) → (flat6 l).length ≤ 12 * l.length
  | [], _ => by simp [flat6]
  | s :: l, h => by
    have h1 := flat6_le (l := l) fun x hx => h x (List.mem_cons_of_mem _ hx)
    have h2 : s.data.toList.length ≤ 12 := by rw [Array.length_toList]; exact h s List.mem_cons_self
    simp only [flat6, List.flatMap_cons, List.length_append, List.length_cons] at h1 ⊢
    omega
theorem flat6_ok {l : List ByteArray} (h : layOk l = true) : (flat6 l).length ≤ 48 := by
  obtain ⟨⟨_, h1⟩, h2, _⟩ := layOk_iff.1 h
  have := flat6_le (l := l) fun s hs => by
    have := h2 s hs
    simp only [rowOk6, Bool.and_eq_true, decide_eq_true_eq] at this
    exact this.1.2
  omega
/-- What ExchangePlan answers. -/
def exR (xs ys : List ByteArray) : List ByteArray × Int := if bothCode xs ys = 0 then ((planAt (flat6 xs) (flat6 ys) (flat6 ys).length).2, 0) else ([], bothCode xs ys)
def ExOut (r : List ByteArray × Int) (w : World) (e : Ending) (w' : World) : Prop := ∃ A n c, e = .returned (.tuple #[.slice A n c, .int .i64 r.2]) ∧ n ≤ 1048576 ∧ OStrs w' w.heap.size A n r.1 ∧ Below w.heap.size w w'

set_option maxRecDepth 100000 in
set_option maxHeartbeats 3200000 in
theorem ex_spec (A : Option Addr) (n c : Nat) (xs : List ByteArray) (B : Option Addr) (m d : Nat) (ys : List ByteArray) (w : World) (h : Strs w A n xs) (hn : n ≤ 1048576) (hs : ∀ s ∈ xs, s.size ≤ 1048576) (h' : Strs w B m ys) (hm : m ≤ 1048576) (hs' : ∀ s ∈ ys, s.size ≤ 1048576) :
    Calls Try.prog 29 #[.agg #[.slice A n c], .agg #[.slice B m d]] w (ExOut (exR xs ys) w) := by
  have hb0 := Lib.hid (below_a2 w (.cells #[.slice A n c] 27) (.cells #[.slice B m d] 27))
  have k0 : ((w.alloc (.cells #[.slice A n c] 27)).alloc (.cells #[.slice B m d] 27)).cell? ⟨w.heap.size, 0, none⟩ = some (.slice A n c) := cell_on (cell_new rfl rfl) _
  have k1 : ((w.alloc (.cells #[.slice A n c] 27)).alloc (.cells #[.slice B m d] 27)).cell? ⟨w.heap.size + 1, 0, none⟩ = some (.slice B m d) := cell_new (by simp) rfl
  have hX := h.below hb0.out
  have hY := h'.below hb0.out
  have hlx := Lib.hid h.1
  have hly := Lib.hid h'.1
  have hq := Lib.hid (both_spec w.heap.size (w.heap.size + 1) A n c xs B m d ys _ k0 k1 hX hn hs hY hm hs')
  by_cases hz : bothCode xs ys = 0
  · obtain ⟨⟨o1, o2⟩, o3, o4⟩ := bothCode_0 hz
    have hres : Hid (exR xs ys = ((planAt (flat6 xs) (flat6 ys) (flat6 ys).length).2, 0)) := Lib.hid (by simp [exR, hz])
    have hsh : Hid (xs.map (·.size) = ys.map (·.size)) := Lib.hid (of_decide_eq_true o3)
    have hf := Lib.hid (flat6_ok o2)
    have hnm : n = m := by rw [← hlx.out, ← hly.out]; exact shape_n o3
    subst hnm
    have hn1 : 1 ≤ n := by have := (layOk_iff.1 o1).1.1; have := hlx.out; omega
    rw [hz] at hq
    replace hs := Lib.hid hs
    replace hs' := Lib.hid hs'
    clear hz o1 o2 o3 o4
    go_enter Try.func29, Try.ntmps29
    go_wp2_with fail
    refine hq.out.mono ?_
    rintro e w1 ⟨rfl, hb1⟩
    have hbw := Lib.hid (hb0.out.step hb1)
    replace k0 := cell_step k0 hb1
    replace k1 := cell_step k1 hb1
    replace hX := hX.below hb1
    replace hY := hY.below hb1
    clear hb1
    have hcall := Lib.hid (plan_spec w.heap.size (w.heap.size + 1) A B n c d xs ys w1 k0 k1 hX hY hn1 hn hsh.out hs'.out (by have := hf.out; omega))
    have hlen := Lib.hid (planAt_out (flat6 xs) (flat6 ys) (flat6 ys).length)
    go_wp2_with fail
    refine hcall.out.mono ?_
    rintro e w2 ⟨A9, _, c9, rfl, rfl, hO, hb2⟩
    have hO := Lib.hid hO
    have hbs := hbw.out.size
    have hbz := Lib.hid (hbw.out.step hb2)
    clear hb2
    go_wp2
    go_ret2
    exact ⟨A9, _, c9, by rw [hres.out]; rfl, by have := hlen.out; have := hf.out; omega, by rw [hres.out]; exact hO.out.mono hbs, hbz.out⟩
  · have hres : Hid (exR xs ys = ([], bothCode xs ys)) := Lib.hid (by simp [exR, hz])
    generalize bothCode xs ys = code at *
    have g0 : (code == 0) = false := beq_eq_false_iff_ne.2 hz
    have g1 : (code != 0) = true := by simp [hz]
    clear hz
    go_enter Try.func29, Try.ntmps29
    go_wp2_with fail
    refine hq.out.mono ?_
    rintro e w1 ⟨rfl, hb1⟩
    have hbw := Lib.hid (hb0.out.step hb1)
    go_wp2
    go_ret2
    exact ⟨none, 0, 0, by rw [hres.out]; rfl, by omega, by rw [hres.out]; exact ORow.nil_, hbw.out⟩
end Go.Proofs.Yticggclpaalhgaa
