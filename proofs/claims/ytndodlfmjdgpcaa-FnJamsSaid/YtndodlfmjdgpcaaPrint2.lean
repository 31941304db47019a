/- PrintedOf: the model's function and the program's. -/
import Derived.Test.YtndodlfmjdgpcaaPrint1
namespace Go.Proofs.Ytndodlfmjdgpcaa
open Go.RowKit
set_option linter.unusedVariables false
set_option linter.unusedSimpArgs false

set_option maxRecDepth 100000 in
set_option maxHeartbeats 6400000 in
theorem pr_impl (b : BasketD) (A : Option Addr) (n c : Nat) (xs : List StrokeD) (w : World) (hg : b.good) (h : Strokes w A n xs) (hn : n ≤ 1048576) (hx : ∀ x ∈ xs, x.good) :
    Calls Try.prog 15 #[.agg #[.int .i64 b.bars, .int .i64 b.rise, .int .i64 b.fall, .int .i64 b.clear, .int .i64 b.near], .slice A n c] w fun e w' => ∃ A' n' c', e = .returned (.tuple #[.slice A' n' c', .int .i64 (okCode b xs)]) ∧ n' ≤ 1048576 ∧ OInts w' w.heap.size A' n' (printed b xs) ∧ Below w.heap.size w w' := by
  have hvs := fun W (hW : Strokes W A n xs) => vs_impl b A n c xs W hg hW hn hx
  cases hok : strokesOk b xs with
  | false =>
    have hres : Hid (printed b xs = []) := Lib.hid (by rw [printed, hok]; rfl)
    have hcode : Hid (okCode b xs = 1) := Lib.hid (by rw [okCode, hok]; rfl)
    rw [hok] at hvs
    replace hvs := Lib.hid hvs
    rw [hcode.out]
    clear hok
    go_enter Try.func15, Try.ntmps15
    go_wp2_with fail
    refine (hvs.out _ (h.below (below_a2 _ _ _))).mono ?_
    rintro e w1 ⟨rfl, hb1⟩
    go_wp2
    go_ret2
    exact ⟨none, 0, 0, rfl, by omega, hres.out ▸ ORow.nil_, (below_a2 _ _ _).step hb1⟩
  | true =>
    have hres : Hid (printed b xs = toI (printAt b xs n)) := Lib.hid (by rw [printed, if_pos hok, h.1])
    have hcode : Hid (okCode b xs = 0) := Lib.hid (by rw [okCode, if_pos hok])
    rw [hok] at hvs
    replace hvs := Lib.hid hvs
    rw [hcode.out]
    have hlen := (strokesOk_iff.1 hok).2.1
    have hpair := fun (q k : Nat) (x y : StrokeD) (hq : q ≤ k) (hx : xs[q]? = some x) (hy : xs[k]? = some y) => pair_ok hok hq hx hy
    have hn60 : n ≤ 60 := by rw [← h.1]; exact hlen
    replace hpair := Lib.hid hpair
    clear hok hlen
    have hl0 := h.1
    have hplt := Lib.hid (printAt_lt b xs)
    obtain ⟨i0, hi, hz0, hz1, hz2⟩ := info_parts Try.infoI64
    have hmf : ∀ (fn : Fn) (first cap : Array Value) (w : World), (Instr.makeFunc fn first cap).run Try.prog w = .ok (.func fn first cap) w := fun _ _ _ _ => rfl
    have hnew := fun W t o => BoxB.on2 W b t o
    replace hnew := Lib.hid hnew
    go_enter Try.func15, Try.ntmps15
    go_wp2_with fail
    refine (hvs.out _ (h.below (below_a2 _ _ _))).mono ?_
    rintro e w1 ⟨rfl, hb1⟩
    have hbox := Lib.hid ((hnew.out w _ _).step hb1)
    have hls : w1.cell? ⟨w.heap.size + 1, 0, none⟩ = some (.slice A n c) := cell_step (cell_new (by simp) rfl) hb1
    have hb0 := (below_a2 _ _ _).step hb1
    have hS := h.below hb0
    replace hb0 := Lib.hid hb0
    clear hb1 hnew hvs h
    generalize hN : w.heap.size = N at *
    replace hN := Lib.hid hN
    go_wp2
    go_loopw [6, 16] (fun v i wr => ∃ k : Nat, k ≤ n ∧ i = .int .i64 k ∧ wr.ownsRow w1.heap.size 2 1 v (printAt b xs k).length ((toI (printAt b xs k)).flatMap intC) ∧ Below w1.heap.size w1 wr) (fun _ i _ => n - (intOf i).toNat)
    case atStart => exact ⟨0, by omega, rfl, World.ownsRow_nil _ _ _ _, Below.refl _ _⟩
    case round =>
      obtain ⟨k, hk, rfl, hrow, hbo⟩ := hrel
      by_cases hlt : k < n
      · obtain ⟨bb, off, y, rfl, hb, hy, g0, g1⟩ := stroke_at (hS.below hbo) hlt
        obtain ⟨A', c', rfl, hO⟩ := owns_ints (toI_length _) hrow
        obtain ⟨l1, l2⟩ := hplt.out k
        have hyes := Lib.hid (printAt_yes (b := b) hy.out)
        have hno := Lib.hid (printAt_no (b := b) hy.out)
        generalize hps : printAt b xs k = ps at *
        replace l1 := Lib.hid l1
        generalize hpn : ps.length = pn at *
        replace hps := Lib.hid hps
        have hk0 : (0 : Int) ≤ (k : Int) := Int.natCast_nonneg _
        have hk1 : (k : Int) < (n : Int) := by omega
        have hwsz := hbo.size
        have hls2 := cell_step hls hbo
        obtain ⟨d0, d1, d2, d3, d4⟩ := hbox.out.step hbo
        have ltN := (hbox.out.step hbo).lt
        have ltN1 := World.block_lt_of_cell? _ _ hls2
        simp only at ltN1
        go_wp2_with fail
        have hyb : (wr.alloc (.cells #[.int .i64 y.bar, .int .i64 y.tick] 39)).cell? ⟨wr.heap.size, 0, none⟩ = some (.int .i64 y.bar) ∧ (wr.alloc (.cells #[.int .i64 y.bar, .int .i64 y.tick] 39)).cell? ⟨wr.heap.size, 1, none⟩ = some (.int .i64 y.tick) := ⟨cell_new rfl rfl, cell_new rfl rfl⟩
        have hbwp := below_a1 wr (.cells #[.int .i64 y.bar, .int .i64 y.tick] 39)
        have hbp := hbo.step hbwp
        have hcl : ∀ j ∈ ps, ∀ W', Below (wr.alloc (.cells #[.int .i64 y.bar, .int .i64 y.tick] 39)).heap.size (wr.alloc (.cells #[.int .i64 y.bar, .int .i64 y.tick] 39)) W' →
            Calls Try.prog 58 #[.int .i64 (j : Int), .pointer (some ⟨N, 0, none⟩), .pointer (some ⟨N + 1, 0, none⟩), .pointer (some ⟨wr.heap.size, 0, none⟩)] W' fun e w' => e = .returned (.bool (jamX b xs y j)) ∧ Below W'.heap.size W' w' := fun j hj W' hW' => by
          have hjk := l1.out j hj
          obtain ⟨bb', off', x, hA', _, hx2, f0, f1⟩ := stroke_at (hS.below (hbp.step hW')) (show j < n by omega)
          cases hA'
          obtain ⟨o1, o2, o3, o4, o5, o6⟩ := hpair.out j k x y (by omega) hx2.out hy.out
          rw [show jamX b xs y j = jamB b x y from jamX_of hx2.out]
          exact clo_jam b x y bb off n c j N (N + 1) wr.heap.size _ W' rfl o1 o2 o3 o4 o5 o6 ((hbox.out.step hbp).step hW') (cell_step (cell_step hls hbp) hW') (cell_step hyb.1 hW') (cell_step hyb.2 hW') f0 f1 (by omega)
        have hrp := owns_below hrow hbwp
        cases hany : ps.any (jamX b xs y) with
        | true =>
          have hcon := has_clo ps (jamX b xs y) A' pn c' N (N + 1) wr.heap.size _ (hO.srow.below hbwp) (by omega) hcl true hany
          have hnx : Hid (printAt b xs (k + 1) = ps) := Lib.hid (hyes.out hany)
          replace hcon := Lib.hid hcon
          clear hcl hany hyb
          refine (hcon.out).mono ?_
          rintro e w2 ⟨rfl, hb2⟩
          have hrq := owns_below hrp hb2
          have hfin : Hid (w2.ownsRow w1.heap.size 2 1 (.slice A' pn c') (printAt b xs (k + 1)).length ((toI (printAt b xs (k + 1))).flatMap intC)) := Lib.hid (by rw [hnx.out, hpn]; exact hrq)
          go_wp2
          go_roundw
          case rel => exact ⟨k + 1, by omega, by go_num, hfin.out, hbp.step hb2⟩
          case measure => simp [intOf]; omega
        | false =>
          have hcon := has_clo ps (jamX b xs y) A' pn c' N (N + 1) wr.heap.size _ (hO.srow.below hbwp) (by omega) hcl false hany
          have hnx : Hid (printAt b xs (k + 1) = ps ++ [k]) := Lib.hid (hno.out hany)
          replace hcon := Lib.hid hcon
          clear hcl hany hyb
          refine (hcon.out).mono ?_
          rintro e w2 ⟨rfl, hb2⟩
          have hrq := owns_below hrp hb2
          have hroq := Lib.hid ((hrow.lt))
          have hq63 : pn + 1 ≤ maxLen := by unfold maxLen; omega
          have hqby : (pn + 1) * 8 ≤ 140737488355328 := by omega
          have hb2sz := hb2.size
          have hbpsz := hbp.size
          go_wp2_with (at_builtin; refine wpList_append_own _ rfl _ _ 33 rfl w1.heap.size 2 i0 _ 1 8 Try.underlying33 hi hz0 hz1 hz2 rfl (by decide) _ _ _ rfl (hrq.alloc _) ⟨w2.heap.size, 0, none⟩ 1 1 [.int .i64 (k : Int)] rfl rfl ?c1 ?c2 ?c3 ?c4 ?c5 ?_)
          case c1 =>
            intro j u hj
            match j, hj with
            | 0, hj => cases hj; simp [Addr.add]
            | j + 1, hj => simp at hj
          case c2 =>
            intro u hu
            simp only [List.mem_cons, List.not_mem_nil, or_false] at hu
            subst hu
            rfl
          case c3 => exact hq63
          case c4 => exact hqby
          case c5 =>
            simp
            omega
          intro v' w3 hown3 hgr3 hnil
          have hrel3 : Hid (w3.ownsRow w1.heap.size 2 1 v' (printAt b xs (k + 1)).length ((toI (printAt b xs (k + 1))).flatMap intC) ∧ Below w1.heap.size w1 w3) := Lib.hid (by
            refine ⟨?_, ?_⟩
            · rw [hnx.out, toI_snoc, List.length_append, hpn]
              exact hown3
            · exact Below.grown ((hbp.step hb2).alloc (by omega) _) hgr3 (by simp; omega) (fun j hj => (hroq.out j hj).1))
          clear hown3 hgr3 hnil
          go_wp2
          go_roundw
          case rel => exact ⟨k + 1, by omega, by go_num, hrel3.out.1, hrel3.out.2⟩
          case measure => simp [intOf]; omega
      · obtain rfl : k = n := by omega
        obtain ⟨A', c', rfl, hO⟩ := owns_ints (toI_length _) hrow
        have hle := (hplt.out k).2
        have hfin := Lib.hid (show OInts _ N A' _ (printed b xs) from hres.out ▸ hO.mono (by rw [← hN.out]; exact hb0.out.size))
        clear hO hrow
        go_wp2
        go_ret2
        obtain rfl := hN.out
        exact ⟨A', _, c', rfl, by omega, hfin.out, hb0.out.step hbo⟩
end Go.Proofs.Ytndodlfmjdgpcaa
