/- Carriages with acts that are drawn. -/
import Derived.Test.YtiopeheockajaaaDoorDraw4a
namespace Go.Proofs.YtiopeheockajaaaDoor
open Go.RowKit
set_option linter.unusedVariables false
set_option linter.unusedSimpArgs false

theorem owns_acts {w : World} {base n : Nat} {A : Option Addr} {c : Nat} {xs : List ActD} (h : w.ownsRow base 48 2 (.slice A n c) n (xs.flatMap ActD.cells)) (hl : xs.length = n) : Acts w A n xs := by
  subst hl
  obtain ⟨A', c', e, hO⟩ := ORow.of_owns (cells := ActD.cells) (fun _ => rfl) h
  cases e
  exact hO.srow

/-- A carriage and acts that have been drawn. -/
def TAOut (Z : Nat) (w : World) (e : Ending) (w' : World) : Prop := ∃ b : CarriageD, ∃ A' n' c', ∃ ys : List ActD, e = .returned (.tuple #[.agg #[.int .i64 b.left, .int .i64 b.right, .int .i64 b.bell], .slice A' n' c']) ∧ b.good ∧ n' ≤ 201 ∧ Acts w' A' n' ys ∧ (∀ y ∈ ys, actD y) ∧ (∀ p, A' = some p → Z ≤ p.block) ∧ Below Z w w'

set_option maxRecDepth 100000 in
set_option maxHeartbeats 4000000 in
theorem l04all_any (A : Option Addr) (n c : Nat) (xs : List Int) (w : World) (hn : n ≤ maxLen) (h : Bytes w A n xs) (hg : ∀ x ∈ xs, byteGood x) :
    Calls Tryd.prog 39 #[.slice A n c] w (TAOut w.heap.size w) := by
  have hZ0 := CRow.new w 0 0 0
  have hb0 := below_a1 w (.cells #[.int .i64 0, .int .i64 0, .int .i64 0] 27)
  have hfr := Lib.hid (from_any A n c xs _ hn (h.below hb0) hg)
  go_enter Tryd.func39, Tryd.ntmps39
  go_wp2_with fail
  have hz0 := hZ0.lt
  generalize w.alloc (.cells #[.int .i64 0, .int .i64 0, .int .i64 0] 27) = w0 at *
  generalize hZ : w.heap.size = Z at *
  refine hfr.out.mono ?_
  rintro e w1 ⟨rfl, hs1, hb1⟩
  have hZ1 := hZ0.below hb1
  have hd1 : Below Z w w1 := hb0.trans (hb1.mono (by omega))
  have hr1 := hs1.lt
  generalize w0.heap.size = r at *
  have hld := Lib.hid (l04draw_any r 0 w1 hs1 (by omega))
  go_wp2_with fail
  refine hld.out.mono ?_
  rintro e w2 ⟨b, rfl, hbg, hs2, hdr⟩
  have hZ2 := hZ1.block (hdr.block Z hZ1.lt (by omega))
  have hd2 : Below Z w w2 := hd1.trans ⟨hdr.os, hdr.tape, hdr.output, hdr.size, fun k hk => hdr.block k (by have := hZ1.lt; omega) (by omega)⟩
  have hr2 := hs2.lt
  have hC3 := CRow.new w2 b.left b.right b.bell
  have hb3 := below_a1 w2 (.cells #[.int .i64 b.left, .int .i64 b.right, .int .i64 b.bell] 27)
  go_wp2_with fail
  have hq2 := hC3.lt
  generalize w2.alloc (.cells #[.int .i64 b.left, .int .i64 b.right, .int .i64 b.bell] 27) = w3 at *
  have hZ3 := hZ2.below hb3
  have hs3 := hs2.below hb3
  have hd3 := hd2.trans (hb3.mono (by have := hZ2.lt; omega))
  obtain ⟨c0, c1, c2⟩ := hC3.cells
  have hzq := hZ2.lt
  generalize w2.heap.size = Q at *
  refine wp_region_held_drew (S := fun w' => w'.cell? ⟨Q, 0, none⟩ = some (.int .i64 b.left) ∧ w'.cell? ⟨Q, 1, none⟩ = some (.int .i64 b.right) ∧ w'.cell? ⟨Q, 2, none⟩ = some (.int .i64 b.bell)) (by kernel_rfl) ?_ (fun hHeld => ?_)
  · exact ⟨c0, c1, c2⟩
  refine wpAnyH_take (i := 0) (v := ?va0) rfl (by kernel_rfl) (by kernel_rfl) (by kernel_rfl) (fun _ _ _ h => h) (Or.inl ⟨rfl, ?ya0⟩) (by assumption) ?_
  case ya0 => (intro w hSw; (try dsimp only at hSw); go_simp; first | done | with_reducible rfl)
  try simp only [List.getElem_toArray, List.getElem_cons_succ, List.getElem_cons_zero, Act.put, List.setIfInBounds_toArray, List.set_cons_zero, List.set_cons_succ]
  refine wpAnyH_take (i := 1) (v := ?va1) rfl (by kernel_rfl) (by kernel_rfl) (by kernel_rfl) (fun _ _ _ h => h) (Or.inl ⟨rfl, ?ya1⟩) (by assumption) ?_
  case ya1 => (intro w hSw; (try dsimp only at hSw); go_simp; first | done | with_reducible rfl)
  try simp only [List.getElem_toArray, List.getElem_cons_succ, List.getElem_cons_zero, Act.put, List.setIfInBounds_toArray, List.set_cons_zero, List.set_cons_succ]
  refine wpAnyH_ready (rs := [2]) (by kernel_rfl) (by simp) ?_
  refine AllReadyH.cons rfl (fun K hK => ?_) AllReadyH.nil
  go_simp
  refine (l04acts_any r 10 w3.drew (show SrcAt w3.drew r 10 from hs3) (by omega)).mono ?_
  rintro e w4 ⟨A', n', c', ys, rfl, hn', hcap', hrow, hlen, hyg, hs4, hdr4⟩
  replace hdr4 := drawn_of_drew hdr4
  have hC4 : CRow w4 Q b := CRow.block (w := w3) hC3 (hdr4.block Q hC3.lt (by omega))
  have hZ4 : CRow w4 Z ⟨0, 0, 0⟩ := CRow.block (w := w3) hZ3 (hdr4.block Z hZ3.lt (by omega))
  have hd4 : Below Z w w4 := hd3.trans ⟨hdr4.os, hdr4.tape, hdr4.output, hdr4.size, fun k hk => hdr4.block k (by have := hZ3.lt; show k < w3.heap.size; omega) (by omega)⟩
  obtain ⟨e0, e1, e2⟩ := hZ4.cells
  have f0 := hZ4.frozen 0
  have f1 := hZ4.frozen 1
  have f2 := hZ4.frozen 2
  obtain ⟨g0, g1, g2⟩ := hC4.cells
  go_wp2_with fail
  refine hK.out _ _ ?_ (fun hHeld => ?_)
  · exact ⟨g0, g1, g2⟩
  clear hK K
  try simp only [List.getElem_toArray, List.getElem_cons_succ, List.getElem_cons_zero, Act.put, List.setIfInBounds_toArray, List.set_cons_zero, List.set_cons_succ]
  have hgf := grown_put3 w4 Z (.int .i64 b.left) (.int .i64 b.right) (.int .i64 b.bell)
  have hZf := hZ4.put3 b.left b.right b.bell
  have hCf := hC4.grown hgf (fun e => by cases e; omega)
  refine wpAnyH_ready (rs := [3]) (by kernel_rfl) (by simp) ?_
  refine AllReadyH.cons rfl (fun K hK => ?_) AllReadyH.nil
  go_simp
  refine hK.out _ _ ?_ (fun hHeld => ?_)
  · exact ⟨hCf.cells.1, hCf.cells.2.1, hCf.cells.2.2⟩
  clear hK K
  try simp only [List.getElem_toArray, List.getElem_cons_succ, List.getElem_cons_zero, Act.put, List.setIfInBounds_toArray, List.set_cons_zero, List.set_cons_succ]
  refine wpAnyH_take (i := 4) (v := ?vz4) rfl (by kernel_rfl) (by kernel_rfl) (by kernel_rfl) (fun _ _ _ h => h) (Or.inl ⟨rfl, ?yz4⟩) (by assumption) ?_
  case yz4 => (intro w hSw; (try dsimp only at hSw); go_simp; first | done | with_reducible rfl)
  try simp only [List.getElem_toArray, List.getElem_cons_succ, List.getElem_cons_zero, Act.put, List.setIfInBounds_toArray, List.set_cons_zero, List.set_cons_succ]
  refine wpAnyH_done (by kernel_rfl) ?_ _
  have hyr : Acts w4 A' n' ys := owns_acts hrow hlen
  have hne : ∀ p, A' = some p → p.block ≠ Z := fun p hp => by
    subst hp
    have := act_base hrow p.block rfl
    have h3 : Z < w3.drew.heap.size := hZ3.lt
    omega
  have hyf := SRow.kept (B := some ⟨Z, 0, none⟩) hyr hgf (fun p q e1 e2 => by cases e2; exact hne p e1)
  have hdf : Below Z w (((w4.setCell ⟨Z, 0, none⟩ (.int .i64 b.left)).setCell ⟨Z, 1, none⟩ (.int .i64 b.right)).setCell ⟨Z, 2, none⟩ (.int .i64 b.bell)) := ⟨hgf.os.trans hd4.os, hgf.tape.trans hd4.tape, hgf.output.trans hd4.output, Nat.le_trans hd4.size hgf.size, fun k hk => (hgf.block k (by have := hZ4.lt; omega) (fun e => by cases e; omega)).trans (hd4.block k hk)⟩
  obtain ⟨z0, z1, z2⟩ := hZf.cells
  generalize ((w4.setCell ⟨Z, 0, none⟩ (.int .i64 b.left)).setCell ⟨Z, 1, none⟩ (.int .i64 b.right)).setCell ⟨Z, 2, none⟩ (.int .i64 b.bell) = wf at *
  go_wp2
  (try simp only [Exit.inBlock, Exit.then])
  refine bodyPost_ret (v := .tuple #[.agg #[.int .i64 b.left, .int .i64 b.right, .int .i64 b.bell], .slice A' n' c']) (by simp [results, Tryd.results39, go_sem, z0, z1, z2]) rfl ?_
  unfold TAOut
  exact ⟨b, A', n', c', ys, rfl, hbg, hn', hyf, hyg, fun p hp => by subst hp; have := act_base hrow p.block rfl; have h3 : Z < w3.drew.heap.size := hZ3.lt; omega, hdf⟩

set_option maxRecDepth 100000 in
set_option maxHeartbeats 4000000 in
theorem drawTA_any (A : Option Addr) (n c : Nat) (xs : List Int) (w : World) (hn : n ≤ maxLen) (h : Bytes w A n xs) (hg : ∀ x ∈ xs, byteGood x) :
    Calls Tryd.prog 13 #[.slice A n c] w (TAOut w.heap.size w) := by
  have hZ0 := CRow.new w 0 0 0
  have hb0 := below_a1 w (.cells #[.int .i64 0, .int .i64 0, .int .i64 0] 27)
  have hal := Lib.hid (l04all_any A n c xs _ hn (h.below hb0) hg)
  go_enter Tryd.func13, Tryd.ntmps13
  go_wp2_with fail
  have hz0 := hZ0.lt
  generalize w.alloc (.cells #[.int .i64 0, .int .i64 0, .int .i64 0] 27) = w0 at *
  generalize hZ : w.heap.size = Z at *
  refine hal.out.mono ?_
  rintro e w1 ⟨b, A', n', c', ys, rfl, hbg, hn', hyr, hyg, hya, hb1⟩
  have hZ1 := hZ0.below hb1
  have hd4 : Below Z w w1 := hb0.trans (hb1.mono (by omega))
  obtain ⟨e0, e1, e2⟩ := hZ1.cells
  have f0 := hZ1.frozen 0
  have f1 := hZ1.frozen 1
  have f2 := hZ1.frozen 2
  have hgf := grown_put3 w1 Z (.int .i64 b.left) (.int .i64 b.right) (.int .i64 b.bell)
  have hZf := hZ1.put3 b.left b.right b.bell
  have hne : ∀ p, A' = some p → p.block ≠ Z := fun p hp => by have := hya p hp; omega
  have hyf := SRow.kept (B := some ⟨Z, 0, none⟩) hyr hgf (fun p q e1 e2 => by cases e2; exact hne p e1)
  have hdf : Below Z w (((w1.setCell ⟨Z, 0, none⟩ (.int .i64 b.left)).setCell ⟨Z, 1, none⟩ (.int .i64 b.right)).setCell ⟨Z, 2, none⟩ (.int .i64 b.bell)) := ⟨hgf.os.trans hd4.os, hgf.tape.trans hd4.tape, hgf.output.trans hd4.output, Nat.le_trans hd4.size hgf.size, fun k hk => (hgf.block k (by have := hZ1.lt; omega) (fun e => by cases e; omega)).trans (hd4.block k hk)⟩
  go_wp2
  (try simp only [Exit.inBlock, Exit.then])
  obtain ⟨z0, z1, z2⟩ := hZf.cells
  generalize ((w1.setCell ⟨Z, 0, none⟩ (.int .i64 b.left)).setCell ⟨Z, 1, none⟩ (.int .i64 b.right)).setCell ⟨Z, 2, none⟩ (.int .i64 b.bell) = wf at *
  refine bodyPost_ret (v := .tuple #[.agg #[.int .i64 b.left, .int .i64 b.right, .int .i64 b.bell], .slice A' n' c']) (by simp [results, Tryd.results13, go_sem, z0, z1, z2]) rfl ?_
  unfold TAOut
  exact ⟨b, A', n', c', ys, rfl, hbg, hn', hyf, hyg, fun p hp => by have := hya p hp; omega, hdf⟩
end Go.Proofs.YtiopeheockajaaaDoor
