/- FastestStrokes and TicksFor: the model's functions and the program's. -/
import Derived.Test.YtfhlpojaldidpaaFast1
namespace Go.Proofs.Ytfhlpojaldidpaa
open Go.RowKit
set_option linter.unusedVariables false
set_option linter.unusedSimpArgs false

def fastL (b : BasketD) (xs : List Int) : List StrokeD := if codeOf b xs = 0 then fastAt b xs xs.length else []
def ticksFor (b : BasketD) (xs : List Int) : Int × Int := if codeOf b xs = 0 then (if xs.length = 0 then (0, 0) else (atAt b xs xs.length + b.rise + b.fall, 0)) else (0, codeOf b xs)

set_option maxRecDepth 100000 in
set_option maxHeartbeats 3200000 in
theorem fast_spec (b : BasketD) (A : Option Addr) (n c : Nat) (xs : List Int) (w : World) (hg : b.good) (h : Ints w A n xs) (hn : n ≤ 1048576) (hx : ∀ x ∈ xs, intGood x) :
    Calls Try.prog 78 #[.agg #[.int .i64 b.bars, .int .i64 b.rise, .int .i64 b.fall, .int .i64 b.clear, .int .i64 b.near], .slice A n c] w fun e w' => ∃ A' n' c', e = .returned (.tuple #[.slice A' n' c', .int .i64 (codeOf b xs)]) ∧ n' ≤ 1048576 ∧ OStrokes w' w.heap.size A' n' (fastL b xs) ∧ Below w.heap.size w w' := by
  have hcd := fun W (hW : Ints W A n xs) => code_spec b A n c xs W hW hn
  by_cases h0 : codeOf b xs = 0
  · obtain ⟨hok, h60, hbars⟩ := codeOf_ok h0
    have hfl : Hid (fastL b xs = fastAt b xs n) := Lib.hid (by rw [fastL, if_pos h0, h.1])
    rw [h0] at hcd
    replace hcd := Lib.hid hcd
    have hl0 := h.1
    have hn60 : n ≤ 60 := by omega
    have hnew := fun W t => BoxB.new W b t
    replace hnew := Lib.hid hnew
    have hfw := fun W (hW : Ints W A n xs) => fast_walk b A n c xs W hok h60 hbars hW
    replace hfw := Lib.hid hfw
    rw [h0]
    clear h0
    go_enter Try.func78, Try.ntmps78
    go_wp2_with fail
    refine (hcd.out _ (h.below (below_a1 _ _))).mono ?_
    rintro e w1 ⟨rfl, hb1⟩
    obtain ⟨d0, d1, d2, d3, d4⟩ := (hnew.out w _).step hb1
    have hb0 := Lib.hid ((below_a1 _ _).step hb1)
    clear hb1
    go_wp2_with fail
    refine (hfw.out _ (h.below hb0.out)).mono ?_
    rintro e w2 ⟨v, rfl, hown, hb2⟩
    obtain ⟨A', c', rfl, hO⟩ := owns_read (fastAt_length b xs n) hown
    have hres := Lib.hid (show OStrokes w2 w.heap.size A' n (fastL b xs) from hfl.out ▸ hO.mono hb0.out.size)
    clear hO hown
    go_wp2
    go_ret2
    exact ⟨A', n, c', rfl, by omega, hres.out, hb0.out.step hb2⟩
  · have hres : Hid (fastL b xs = []) := Lib.hid (by rw [fastL, if_neg h0])
    have hcs := codeOf_cases b xs
    generalize codeOf b xs = q at *
    replace hcd := Lib.hid hcd
    have hq0 : (q == 0) = false := by simpa using h0
    clear h0
    rcases hcs with rfl | rfl | rfl
    · simp at hq0
    · clear hq0
      go_enter Try.func78, Try.ntmps78
      go_wp2_with fail
      refine (hcd.out _ (h.below (below_a1 _ _))).mono ?_
      rintro e w1 ⟨rfl, hb1⟩
      go_wp2
      go_ret2
      exact ⟨none, 0, 0, rfl, by omega, hres.out ▸ ORow.nil_, (below_a1 _ _).step hb1⟩
    · clear hq0
      go_enter Try.func78, Try.ntmps78
      go_wp2_with fail
      refine (hcd.out _ (h.below (below_a1 _ _))).mono ?_
      rintro e w1 ⟨rfl, hb1⟩
      go_wp2
      go_ret2
      exact ⟨none, 0, 0, rfl, by omega, hres.out ▸ ORow.nil_, (below_a1 _ _).step hb1⟩

set_option maxRecDepth 100000 in
set_option maxHeartbeats 3200000 in
theorem fast_impl (b : BasketD) (A : Option Addr) (n c : Nat) (xs : List Int) (w : World) (hg : b.good) (h : Ints w A n xs) (hn : n ≤ 1048576) (hx : ∀ x ∈ xs, intGood x) :
    Calls Try.prog 80 #[.agg #[.int .i64 b.bars, .int .i64 b.rise, .int .i64 b.fall, .int .i64 b.clear, .int .i64 b.near], .slice A n c] w fun e w' => ∃ A' n' c', e = .returned (.tuple #[.slice A' n' c', .int .i64 (codeOf b xs)]) ∧ n' ≤ 1048576 ∧ OStrokes w' w.heap.size A' n' (fastL b xs) ∧ Below w.heap.size w w' := by
  have hcd := fun W (hW : Ints W A n xs) => check_impl b A n c xs W hW hn
  by_cases h0 : codeOf b xs = 0
  · obtain ⟨hok, h60, hbars⟩ := codeOf_ok h0
    have hfl : Hid (fastL b xs = fastAt b xs n) := Lib.hid (by rw [fastL, if_pos h0, h.1])
    rw [h0] at hcd
    replace hcd := Lib.hid hcd
    have hl0 := h.1
    have hn60 : n ≤ 60 := by omega
    have hnew := fun W t => BoxB.new W b t
    replace hnew := Lib.hid hnew
    obtain ⟨i0, hi, hz0, hz1, hz2⟩ := info_parts Try.infoStroke
    have hfo := fun k hk => fastAt_ok hok hbars k hk
    replace hfo := Lib.hid hfo
    replace hbars := Lib.hid hbars
    rw [h0]
    clear h0
    go_enter Try.func80, Try.ntmps80
    go_wp2_with fail
    refine (hcd.out _ (h.below (below_a1 _ _))).mono ?_
    rintro e w1 ⟨rfl, hb1⟩
    have hbox := Lib.hid ((hnew.out w _).step hb1)
    have hb0 := (below_a1 _ _).step hb1
    have hS := h.below hb0
    have hsz := hb0.size
    replace hb0 := Lib.hid hb0
    clear hb1 hnew hcd
    generalize hN : w.heap.size = N at *
    replace hN := Lib.hid hN
    go_wp2
    go_loopw [7, 18] (fun v i wr => ∃ k : Nat, k ≤ n ∧ i = .int .i64 k ∧ wr.ownsRow w1.heap.size 39 2 v k ((fastAt b xs k).flatMap StrokeD.cells) ∧ Below w1.heap.size w1 wr) (fun _ i _ => n - (intOf i).toNat)
    case atStart => exact ⟨0, by omega, rfl, World.ownsRow_nil _ _ _ _, Below.refl _ _⟩
    case round =>
      obtain ⟨k, hk, rfl, hrow, hbw⟩ := hrel
      by_cases hlt : k < n
      · obtain ⟨bb, off, x, rfl, hb', hx', c0⟩ := int_at (hS.below hbw) hlt
        obtain ⟨d0, d1, d2, d3, d4⟩ := hbox.out.step hbw
        obtain ⟨A', c', rfl, hO⟩ := owns_read (fastAt_length b xs k) hrow
        have hxb := hbars.out k x hx'.out
        obtain ⟨f1, f2, f3⟩ := hfo.out k (by omega)
        have hfree := fun W (hW : Strokes W A' k (fastAt b xs k)) => free_impl b A' k c' (fastAt b xs k) x W hok hxb hW (by omega) (fun s hs => by have h9 := f1 s hs; exact ⟨h9.1, h9.2.1, by omega⟩)
        replace hfree := Lib.hid hfree
        have hsucc := Lib.hid (fastAt_succ b xs k hx'.out)
        have hk0 : (0 : Int) ≤ (k : Int) := Int.natCast_nonneg _
        have hk1 : (k : Int) < (n : Int) := by omega
        have hSr := Lib.hid hO.srow
        have hwsz := hbw.size
        have hroq := Lib.hid ((hrow.lt))
        have hq63 : k + 1 ≤ maxLen := by unfold maxLen; omega
        have hqby : (k + 1) * 16 ≤ 140737488355328 := by omega
        clear hO f1
        go_wp2_with fail
        refine (hfree.out _ hSr.out).mono ?_
        rintro e w2 ⟨rfl, hb2⟩
        have hrq := owns_below hrow hb2
        have hb2sz := hb2.size
        replace hb2 := Lib.hid hb2
        generalize hfx : freeT b x 0 (fastAt b xs k) = m at *
        replace hfx := Lib.hid hfx
        go_wp2_with (at_builtin; refine wpList_append_own _ rfl _ _ 27 rfl w1.heap.size 39 i0 _ 2 16 Try.underlying27 hi hz0 hz1 hz2 rfl (by decide) _ _ _ rfl (hrq.alloc _) ⟨w2.heap.size, 0, none⟩ 1 1 [.int .i64 x, .int .i64 m] rfl rfl ?c1 ?c2 ?c3 ?c4 ?c5 ?_)
        case c1 =>
          intro j u hj
          match j, hj with
          | 0, hj => cases hj; simp [Addr.add]
          | 1, hj => cases hj; simp [Addr.add]
          | j + 2, hj => simp at hj
        case c2 =>
          intro u hu
          simp only [List.mem_cons, List.not_mem_nil, or_false] at hu
          rcases hu with rfl | rfl <;> rfl
        case c3 => exact hq63
        case c4 => exact hqby
        case c5 =>
          simp
          omega
        intro v' w3 hown3 hgr3 hnil
        have hrel3 : Hid (w3.ownsRow w1.heap.size 39 2 v' (k + 1) ((fastAt b xs (k + 1)).flatMap StrokeD.cells) ∧ Below w1.heap.size w1 w3) := Lib.hid (by
          refine ⟨?_, ?_⟩
          · rw [hsucc.out.1, flat_snoc]
            exact hown3
          · exact Below.grown ((hbw.step hb2.out).alloc (by omega) _) hgr3 (by simp; omega) (fun j hj => (hroq.out j hj).1))
        clear hown3 hgr3 hnil
        go_wp2
        go_roundw
        case rel => exact ⟨k + 1, by omega, by go_num, hrel3.out.1, hrel3.out.2⟩
        case measure => simp [intOf]; omega
      · obtain rfl : k = n := by omega
        obtain ⟨A', c', rfl, hO⟩ := owns_read (fastAt_length b xs k) hrow
        have hres := Lib.hid (show OStrokes _ N A' k (fastL b xs) from hfl.out ▸ hO.mono (by rw [← hN.out]; exact hb0.out.size))
        clear hO hrow
        go_wp2
        go_ret2
        obtain rfl := hN.out
        exact ⟨A', k, c', rfl, by omega, hres.out, hb0.out.step hbw⟩
  · have hres : Hid (fastL b xs = []) := Lib.hid (by rw [fastL, if_neg h0])
    have hcs := codeOf_cases b xs
    generalize codeOf b xs = q at *
    replace hcd := Lib.hid hcd
    have hq0 : (q == 0) = false := by simpa using h0
    clear h0
    rcases hcs with rfl | rfl | rfl
    · simp at hq0
    · clear hq0
      go_enter Try.func80, Try.ntmps80
      go_wp2_with fail
      refine (hcd.out _ (h.below (below_a1 _ _))).mono ?_
      rintro e w1 ⟨rfl, hb1⟩
      go_wp2
      go_ret2
      exact ⟨none, 0, 0, rfl, by omega, hres.out ▸ ORow.nil_, (below_a1 _ _).step hb1⟩
    · clear hq0
      go_enter Try.func80, Try.ntmps80
      go_wp2_with fail
      refine (hcd.out _ (h.below (below_a1 _ _))).mono ?_
      rintro e w1 ⟨rfl, hb1⟩
      go_wp2
      go_ret2
      exact ⟨none, 0, 0, rfl, by omega, hres.out ▸ ORow.nil_, (below_a1 _ _).step hb1⟩
end Go.Proofs.Ytfhlpojaldidpaa
