/- First jams and their number, of strokes in a slice of whatever capacity. -/
import Derived.Test.YtndodlfmjdgpcaaJams
namespace Go.Proofs.Ytndodlfmjdgpcaa
open Go.RowKit
set_option linter.unusedVariables false
set_option linter.unusedSimpArgs false

set_option maxRecDepth 100000 in
set_option maxHeartbeats 3200000 in
theorem fj_any (b : BasketD) (A : Option Addr) (n c : Nat) (xs : List StrokeD) (w : World) (hg : b.good) (h : Strokes w A n xs) (hn : n ≤ 1048576) (hc : n ≤ c) (hx : ∀ x ∈ xs, x.good) :
    Calls Try.prog 13 #[.agg #[.int .i64 b.bars, .int .i64 b.rise, .int .i64 b.fall, .int .i64 b.clear, .int .i64 b.near], .slice A n c] w fun e w' => e = .returned (.tuple #[.int .i64 (firstJam b xs).1, .int .i64 (firstJam b xs).2.1, .int .i64 (firstJam b xs).2.2]) ∧ Below w.heap.size w w' := by
  have hcI : (n : Int) ≤ (c : Int) := by omega
  generalize hr : firstJam b xs = r
  replace hr := Lib.hid hr.symm
  have hvs := fun W (hW : Strokes W A n xs) => vs_impl b A n c xs W hg hW hn hx
  cases hok : strokesOk b xs with
  | false =>
    have hres : Hid (r = (0, 0, 1)) := Lib.hid (by rw [hr.out, firstJam, hok]; rfl)
    rw [hok] at hvs
    replace hvs := Lib.hid hvs
    clear hok hr
    obtain ⟨bars, rise, fall, clear, near⟩ := b
    go_enter Try.func13, Try.ntmps13
    go_wp2_with fail
    refine (hvs.out _ (h.below (below_a1 _ _))).mono ?_
    rintro e w1 ⟨rfl, hb1⟩
    go_wp2
    go_ret3
    exact ⟨ret_fj hres.out, (below_a1 _ _).step hb1⟩
  | true =>
    rw [hok] at hvs
    replace hvs := Lib.hid hvs
    have hlen := (strokesOk_iff.1 hok).2.1
    have hpair := fun (q k : Nat) (x y : StrokeD) (hq : q ≤ k) (hx : xs[q]? = some x) (hy : xs[k]? = some y) => pair_ok hok hq hx hy
    have hn60 : n ≤ 60 := by rw [← h.1]; exact hlen
    replace hpair := Lib.hid hpair
    have hres : Hid (r = (match scanI b xs 0 xs with | some p => ((p.1 : Int), (p.2 : Int), 0) | none => (0, 0, 3))) := Lib.hid (by rw [hr.out, firstJam, hok]; rfl)
    clear hok hr hlen
    have hl0 := h.1
    have hnew := fun W t => BoxB.new W b t

    replace hnew := Lib.hid hnew
    go_enter Try.func13, Try.ntmps13
    go_wp2_with fail
    refine (hvs.out _ (h.below (below_a1 _ _))).mono ?_
    rintro e w1 ⟨rfl, hb1⟩
    have hbox := Lib.hid ((hnew.out w _).step hb1)
    have hb0 := (below_a1 _ _).step hb1
    have hS := h.below hb0
    replace hb0 := Lib.hid hb0
    clear hb1 hnew hvs h
    generalize hN : w.heap.size = N at *
    replace hN := Lib.hid hN
    go_wp2
    go_loopw [17] (fun i wr => ∃ k : Nat, k ≤ n ∧ i = .int .i64 k ∧ Below w1.heap.size w1 wr ∧ scanI b xs 0 xs = scanI b xs k (xs.drop k)) (fun i _ => n - (intOf i).toNat)
    case atStart => exact ⟨0, by omega, rfl, Below.refl _ _, rfl⟩
    case round =>
      obtain ⟨k, hk, rfl, hbo, he⟩ := hrel
      replace he := Lib.hid he
      rename World => wo
      by_cases hlt : k < n
      · obtain ⟨bb, off, y, rfl, hb, hy, g0, g1⟩ := stroke_at (hS.below hbo) hlt
        have hk0 : (0 : Int) ≤ (k : Int) := Int.natCast_nonneg _
        have hk1 : (k : Int) < (n : Int) := by omega
        have hk2 : (k : Int) ≤ (n : Int) := by omega
        have hlb := (hbox.out.step hbo).lt
        go_wp2
        have hyb : (wo.alloc (.cells #[.int .i64 y.bar, .int .i64 y.tick] 39)).cell? ⟨wo.heap.size, 0, none⟩ = some (.int .i64 y.bar) ∧ (wo.alloc (.cells #[.int .i64 y.bar, .int .i64 y.tick] 39)).cell? ⟨wo.heap.size, 1, none⟩ = some (.int .i64 y.tick) := ⟨cell_new rfl rfl, cell_new rfl rfl⟩
        have hbp := hbo.step (below_a1 wo (.cells #[.int .i64 y.bar, .int .i64 y.tick] 39))
        generalize hwp : wo.alloc (.cells #[.int .i64 y.bar, .int .i64 y.tick] 39) = wp at *
        generalize hM : wo.heap.size = M at *
        clear hwp hM g0 g1 hb hlb
        go_loopw [26] (fun j wq => ∃ q : Nat, q ≤ k ∧ j = .int .i64 q ∧ Below wp.heap.size wp wq ∧ scanJ b y 0 (xs.take k) = scanJ b y q ((xs.take k).drop q)) (fun j _ => k - (intOf j).toNat)
        case atStart => exact ⟨0, by omega, rfl, Below.refl _ _, rfl⟩
        case round =>
          obtain ⟨q, hq, rfl, hbq, he2⟩ := hrel
          replace he2 := Lib.hid he2
          rename World => wq
          by_cases hltq : q < k
          · obtain ⟨bb', off', x, hA', hbx, hx2, f0, f1⟩ := stroke_at (hS.below (hbp.step hbq)) (show q < n by omega)
            cases hA'
            have hq0 : (0 : Int) ≤ (q : Int) := Int.natCast_nonneg _
            have hq1 : (q : Int) < (n : Int) := by omega
            have hq2 : (q : Int) < (k : Int) := by omega
            obtain ⟨d0, d1, d2, d3, d4⟩ := (hbox.out.step hbp).step hbq
            have e0 := cell_step hyb.1 hbq
            have e1 := cell_step hyb.2 hbq
            have ltN := World.block_lt_of_cell? _ _ d0
            have ltM := World.block_lt_of_cell? _ _ e0
            simp only at ltN ltM
            obtain ⟨o1, o2, o3, o4, o5, o6⟩ := hpair.out q k x y (by omega) hx2.out hy.out
            have hsj := Lib.hid (scanJ_drop (b := b) (s := y) (take_at hltq hx2.out))
            cases hjm : jamB b x y with
            | true =>
              have hr2 : Hid (r = ((k : Int), (q : Int), 0)) := Lib.hid (by
                have h9 : scanJ b y 0 (xs.take k) = some q := by rw [he2.out, hsj.out, hjm]; rfl
                rw [hres.out, he.out, scanI_yes hy.out h9])
              have hj := fun W => jam_impl b x y hjm o1 o2 o3 o4 o5 o6 W
              replace hj := Lib.hid hj
              clear hjm o1 o2 o3 o4 o5 o6
              go_wp2_with fail
              refine (hj.out _).mono ?_
              rintro e w2 ⟨rfl, hb2⟩
              go_wp2
              go_ret3
              obtain rfl := hN.out
              exact ⟨ret_fj hr2.out, hb0.out.step ((hbp.step hbq).step ((below_a1 _ _).step hb2))⟩
            | false =>
              have hnx : Hid (scanJ b y 0 (xs.take k) = scanJ b y (q + 1) ((xs.take k).drop (q + 1))) := Lib.hid (by rw [he2.out, hsj.out, hjm]; rfl)
              have hj := fun W => jam_impl b x y hjm o1 o2 o3 o4 o5 o6 W
              replace hj := Lib.hid hj
              clear hjm o1 o2 o3 o4 o5 o6
              go_wp2_with fail
              refine (hj.out _).mono ?_
              rintro e w2 ⟨rfl, hb2⟩
              go_wp2
              go_roundw
              case rel => exact ⟨q + 1, by omega, by go_num, hbq.step ((below_a1 _ _).step hb2), hnx.out⟩
              case measure => simp [intOf]; omega
          · obtain rfl : q = k := by omega
            have hnx : Hid (scanI b xs 0 xs = scanI b xs (q + 1) (xs.drop (q + 1))) := Lib.hid (by
              rw [he.out]
              exact scanI_no hy.out (by rw [he2.out]; exact scanJ_end (by rw [List.length_take, hl0]; omega)))
            go_wp2
            go_roundw
            case rel => exact ⟨q + 1, by omega, by go_num, hbp.step hbq, hnx.out⟩
            case measure => simp [intOf]; omega
      · obtain rfl : k = n := by omega
        have hr2 : Hid (r = (0, 0, 3)) := Lib.hid (by rw [hres.out, he.out, scanI_end hl0])
        go_wp2
        go_ret3
        obtain rfl := hN.out
        exact ⟨ret_fj hr2.out, hb0.out.step hbo⟩

set_option maxRecDepth 100000 in
set_option maxHeartbeats 3200000 in
theorem cj_any (b : BasketD) (A : Option Addr) (n c : Nat) (xs : List StrokeD) (w : World) (hg : b.good) (h : Strokes w A n xs) (hn : n ≤ 1048576) (hc : n ≤ c) (hx : ∀ x ∈ xs, x.good) :
    Calls Try.prog 14 #[.agg #[.int .i64 b.bars, .int .i64 b.rise, .int .i64 b.fall, .int .i64 b.clear, .int .i64 b.near], .slice A n c] w fun e w' => e = .returned (.tuple #[.int .i64 (countJams b xs).1, .int .i64 (countJams b xs).2]) ∧ Below w.heap.size w w' := by
  have hcI : (n : Int) ≤ (c : Int) := by omega
  generalize hr : countJams b xs = r
  replace hr := Lib.hid hr.symm
  have hvs := fun W (hW : Strokes W A n xs) => vs_impl b A n c xs W hg hW hn hx
  cases hok : strokesOk b xs with
  | false =>
    have hres : Hid (r = (0, 1)) := Lib.hid (by rw [hr.out, countJams, hok]; rfl)
    rw [hok] at hvs
    replace hvs := Lib.hid hvs
    clear hok hr
    obtain ⟨bars, rise, fall, clear, near⟩ := b
    go_enter Try.func14, Try.ntmps14
    go_wp2_with fail
    refine (hvs.out _ (h.below (below_a1 _ _))).mono ?_
    rintro e w1 ⟨rfl, hb1⟩
    go_wp2
    go_ret2
    exact ⟨ret_cj hres.out, (below_a1 _ _).step hb1⟩
  | true =>
    rw [hok] at hvs
    replace hvs := Lib.hid hvs
    have hlen := (strokesOk_iff.1 hok).2.1
    have hpair := fun (q k : Nat) (x y : StrokeD) (hq : q ≤ k) (hx : xs[q]? = some x) (hy : xs[k]? = some y) => pair_ok hok hq hx hy
    have hn60 : n ≤ 60 := by rw [← h.1]; exact hlen
    replace hpair := Lib.hid hpair
    have hres : Hid (r = ((cntI b xs 0 xs : Int), 0)) := Lib.hid (by rw [hr.out, countJams, hok]; rfl)
    clear hok hr hlen
    have hl0 := h.1
    have hnew := fun W t => BoxB.new W b t

    replace hnew := Lib.hid hnew
    go_enter Try.func14, Try.ntmps14
    go_wp2_with fail
    refine (hvs.out _ (h.below (below_a1 _ _))).mono ?_
    rintro e w1 ⟨rfl, hb1⟩
    have hbox := Lib.hid ((hnew.out w _).step hb1)
    have hb0 := (below_a1 _ _).step hb1
    have hS := h.below hb0
    replace hb0 := Lib.hid hb0
    clear hb1 hnew hvs h
    generalize hN : w.heap.size = N at *
    replace hN := Lib.hid hN
    go_wp2
    go_loopw [6, 17] (fun a i wr => ∃ (k m : Nat), k ≤ n ∧ i = .int .i64 k ∧ a = .int .i64 m ∧ m ≤ 60 * k ∧ Below w1.heap.size w1 wr ∧ cntI b xs 0 xs = m + cntI b xs k (xs.drop k)) (fun _ i _ => n - (intOf i).toNat)
    case atStart => exact ⟨0, 0, by omega, rfl, rfl, by omega, Below.refl _ _, by simp⟩
    case round =>
      obtain ⟨k, m, hk, rfl, rfl, hm, hbo, he⟩ := hrel
      replace he := Lib.hid he
      rename World => wo
      by_cases hlt : k < n
      · obtain ⟨bb, off, y, rfl, hb, hy, g0, g1⟩ := stroke_at (hS.below hbo) hlt
        have hk0 : (0 : Int) ≤ (k : Int) := Int.natCast_nonneg _
        have hk1 : (k : Int) < (n : Int) := by omega
        have hk2 : (k : Int) ≤ (n : Int) := by omega
        have hlb := (hbox.out.step hbo).lt
        go_wp2
        have hyb : (wo.alloc (.cells #[.int .i64 y.bar, .int .i64 y.tick] 39)).cell? ⟨wo.heap.size, 0, none⟩ = some (.int .i64 y.bar) ∧ (wo.alloc (.cells #[.int .i64 y.bar, .int .i64 y.tick] 39)).cell? ⟨wo.heap.size, 1, none⟩ = some (.int .i64 y.tick) := ⟨cell_new rfl rfl, cell_new rfl rfl⟩
        have hbp := hbo.step (below_a1 wo (.cells #[.int .i64 y.bar, .int .i64 y.tick] 39))
        generalize hwp : wo.alloc (.cells #[.int .i64 y.bar, .int .i64 y.tick] 39) = wp at *
        generalize hM : wo.heap.size = M at *
        clear hwp hM g0 g1 hb hlb
        go_loopw [6, 26] (fun a j wq => ∃ (q p : Nat), q ≤ k ∧ j = .int .i64 q ∧ a = .int .i64 p ∧ p ≤ m + q ∧ Below wp.heap.size wp wq ∧ m + cntJ b y (xs.take k) = p + cntJ b y ((xs.take k).drop q)) (fun _ j _ => k - (intOf j).toNat)
        case atStart => exact ⟨0, m, by omega, rfl, rfl, by omega, Below.refl _ _, rfl⟩
        case round =>
          obtain ⟨q, p, hq, rfl, rfl, hp, hbq, he2⟩ := hrel
          replace he2 := Lib.hid he2
          rename World => wq
          by_cases hltq : q < k
          · obtain ⟨bb', off', x, hA', hbx, hx2, f0, f1⟩ := stroke_at (hS.below (hbp.step hbq)) (show q < n by omega)
            cases hA'
            have hq0 : (0 : Int) ≤ (q : Int) := Int.natCast_nonneg _
            have hq1 : (q : Int) < (n : Int) := by omega
            have hq2 : (q : Int) < (k : Int) := by omega
            obtain ⟨d0, d1, d2, d3, d4⟩ := (hbox.out.step hbp).step hbq
            have e0 := cell_step hyb.1 hbq
            have e1 := cell_step hyb.2 hbq
            have ltN := World.block_lt_of_cell? _ _ d0
            have ltM := World.block_lt_of_cell? _ _ e0
            simp only at ltN ltM
            obtain ⟨o1, o2, o3, o4, o5, o6⟩ := hpair.out q k x y (by omega) hx2.out hy.out
            have hsj := Lib.hid (cntJ_drop (b := b) (s := y) (take_at hltq hx2.out))
            cases hjm : jamB b x y with
            | true =>
              have hnx : Hid (m + cntJ b y (xs.take k) = (p + 1) + cntJ b y ((xs.take k).drop (q + 1))) := Lib.hid (by rw [he2.out, hsj.out, hjm, if_pos rfl]; omega)
              have hj := fun W => jam_impl b x y hjm o1 o2 o3 o4 o5 o6 W
              replace hj := Lib.hid hj
              clear hjm o1 o2 o3 o4 o5 o6
              go_wp2_with fail
              refine (hj.out _).mono ?_
              rintro e w2 ⟨rfl, hb2⟩
              go_wp2
              go_roundw
              case rel => exact ⟨q + 1, p + 1, by omega, by go_num, by go_num, by omega, hbq.step ((below_a1 _ _).step hb2), hnx.out⟩
              case measure => simp [intOf]; omega
            | false =>
              have hnx : Hid (m + cntJ b y (xs.take k) = p + cntJ b y ((xs.take k).drop (q + 1))) := Lib.hid (by rw [he2.out, hsj.out, hjm, if_neg (by simp)]; omega)
              have hj := fun W => jam_impl b x y hjm o1 o2 o3 o4 o5 o6 W
              replace hj := Lib.hid hj
              clear hjm o1 o2 o3 o4 o5 o6
              go_wp2_with fail
              refine (hj.out _).mono ?_
              rintro e w2 ⟨rfl, hb2⟩
              go_wp2
              go_roundw
              case rel => exact ⟨q + 1, p, by omega, by go_num, rfl, by omega, hbq.step ((below_a1 _ _).step hb2), hnx.out⟩
              case measure => simp [intOf]; omega
          · obtain rfl : q = k := by omega
            have hnx : Hid (cntI b xs 0 xs = p + cntI b xs (q + 1) (xs.drop (q + 1))) := Lib.hid (by
              have h8 := he2.out
              rw [cntJ_end (by rw [List.length_take, hl0]; omega)] at h8
              rw [he.out, cntI_drop hy.out]
              omega)
            go_wp2
            go_roundw
            case rel => exact ⟨q + 1, p, by omega, by go_num, rfl, by omega, hbp.step hbq, hnx.out⟩
            case measure => simp [intOf]; omega
      · obtain rfl : k = n := by omega
        have hr2 : Hid (r = ((m : Int), 0)) := Lib.hid (by rw [hres.out, he.out, cntI_end hl0]; simp)
        go_wp2
        go_ret2
        obtain rfl := hN.out
        exact ⟨ret_cj hr2.out, hb0.out.step hbo⟩
end Go.Proofs.Ytndodlfmjdgpcaa
