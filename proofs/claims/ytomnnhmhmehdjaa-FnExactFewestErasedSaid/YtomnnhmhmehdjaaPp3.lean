/- Corrections: a paper that is moved by an option. -/
import Derived.Test.YtomnnhmhmehdjaaPp2
namespace Go.Proofs.Ytomnnhmhmehdjaa
open Go.RowKit Go.ChangeShapes Go.WideShapes Go.Deep
set_option linter.unusedVariables false
set_option linter.unusedSimpArgs false

set_option maxRecDepth 100000 in
set_option maxHeartbeats 1600000 in
theorem mv12 (P O : Nat) (b sh : Int) (hsum : -1000 ≤ b + sh ∧ b + sh ≤ 1000) (w : World) (x : Value) (hP0 : w.cell? ⟨P, 0, none⟩ = some x) (hP : w.cell? ⟨P, 1, none⟩ = some (.int .i64 b)) (hf : w.frozen? ⟨P, 1, none⟩ = false) (hO : w.cell? ⟨O, 0, none⟩ = some (.int .i64 sh)) :
    Calls Try.prog 98 #[.pointer (some ⟨P, 0, none⟩), .pointer (some ⟨O, 0, none⟩)] w fun e w' => e = .returned (.tuple #[]) ∧ w' = (w.setCell ⟨P, 1, none⟩ (.int .i64 (b + sh))).drew := by
  have hlt := World.block_lt_of_cell? _ _ hP
  have hlt2 := World.block_lt_of_cell? _ _ hO
  simp only at hlt hlt2
  have hw1 : IntKind.i64.wrap (b + sh) = b + sh := IntWalk.i64_in _ (by omega)
  go_enter Try.func98, Try.ntmps98
  go_wp2_with fail
  go_region_with (fail)
  all_goals (refine bodyPost_end (v := .tuple #[]) (by simp [results, Try.results98, go_sem]) rfl ?_; exact ⟨rfl, rfl⟩)
theorem blocks2 (w : World) (a b : Obj) : ((w.alloc a).alloc b).heap[w.heap.size]? = some a ∧ ((w.alloc a).alloc b).heap[w.heap.size + 1]? = some b := by
  constructor
  · rw [heap_alloc_old _ _ (by simp), heap_alloc_new]
  · rw [show w.heap.size + 1 = (w.alloc a).heap.size by simp, heap_alloc_new]
theorem set_block12 {w : World} {R i : Nat} {cs : Array Value} {t : TypeId} {v : Value} (h : w.heap[R]? = some (.cells cs t)) : (w.setCell ⟨R, i, none⟩ v).heap[R]? = some (.cells (cs.setIfInBounds i v) t) := by
  have hR : R < w.heap.size := (Array.getElem?_eq_some_iff.1 h).1
  have e := (Array.getElem?_eq_some_iff.1 h).2
  unfold World.setCell
  simp only [Array.getElem?_eq_some_iff]
  refine ⟨by simpa using hR, ?_⟩
  rw [Array.getElem_modify_self, e]
  simp
theorem set_other12 {w : World} {R Q i : Nat} {o : Obj} {v : Value} (h : w.heap[Q]? = some o) (hne : R ≠ Q) : (w.setCell ⟨R, i, none⟩ v).heap[Q]? = some o := by
  unfold World.setCell
  simp only [Array.getElem?_modify]
  rw [if_neg hne]
  exact h
set_option maxRecDepth 100000 in
set_option maxHeartbeats 1600000 in
theorem onp1 (s : ByteArray) (O X : Nat) (sh : Int) (hsh : -60 ≤ sh ∧ sh ≤ 60) (w : World) (hO : w.cell? ⟨O, 0, none⟩ = some (.func (.func 98) #[] #[.pointer (some ⟨X, 0, none⟩)])) (hX : w.cell? ⟨X, 0, none⟩ = some (.int .i64 sh)) :
    Calls Try.prog 78 #[.string s, .slice (some ⟨O, 0, none⟩) 1 1] w fun e w' => e = .returned (.agg #[.string s, .int .i64 sh]) ∧ Below w.heap.size w w' := by
  have hOl := World.block_lt_of_cell? _ _ hO
  have hXl := World.block_lt_of_cell? _ _ hX
  simp only at hOl hXl
  go_enter Try.func78, Try.ntmps78
  go_wp2
  go_loopw [7, 12] (fun _ k wr => ∃ n : Nat, n ≤ 1 ∧ k = .int .i64 (n : Int) ∧ wr.heap[w.heap.size]? = some (.cells #[.string ⟨#[]⟩, .int .i64 0] 108) ∧ wr.heap[w.heap.size + 1]? = some (.cells #[.string s, .int .i64 (if n = 0 then 0 else sh)] 108) ∧ Below w.heap.size w wr) (fun _ k _ => (1 - intOf k).toNat)
  case atStart => exact ⟨0, by omega, rfl, (blocks2 _ _ _).1, (blocks2 _ _ _).2, below_a2 _ _ _⟩
  case round =>
    rename World => wr
    obtain ⟨n, hn, rfl, hR, hP, hbw⟩ := hrel
    by_cases h0 : n < 1
    · obtain rfl : n = 0 := by omega
      simp only [if_true] at hP
      have cO := (hbw.cell (p := ⟨O, 0, none⟩) hOl).trans hO
      have cX := (hbw.cell (p := ⟨X, 0, none⟩) hXl).trans hX
      have hmv := Lib.hid (mv12 (w.heap.size + 1) X 0 sh (by omega) wr (.string s) (own_cell hP rfl) (own_cell hP rfl) (own_frozen hP 1) cX)
      rw [Int.zero_add] at hmv
      have hltP := own_lt hP
      have hbz : Below w.heap.size w ((wr.setCell ⟨w.heap.size + 1, 1, none⟩ (.int .i64 sh)).drew) := (hbw.setCell (Nat.le_add_right _ _) _).drew
      have hR2 : ((wr.setCell ⟨w.heap.size + 1, 1, none⟩ (.int .i64 sh)).drew).heap[w.heap.size]? = some (.cells #[.string ⟨#[]⟩, .int .i64 0] 108) := set_other12 hR (by omega)
      have hP2 : ((wr.setCell ⟨w.heap.size + 1, 1, none⟩ (.int .i64 sh)).drew).heap[w.heap.size + 1]? = some (.cells #[.string s, .int .i64 sh] 108) := set_block12 hP
      generalize (wr.setCell ⟨w.heap.size + 1, 1, none⟩ (.int .i64 sh)).drew = wz at *
      have hfin := Lib.hid (And.intro hR2 (And.intro hP2 hbz))
      clear hR hP hbw hR2 hP2 hbz cX
      go_wp2_with fail
      refine (hmv.out).mono ?_
      rintro e w1 ⟨rfl, rfl⟩
      go_wp2
      go_roundw
      case rel => exact ⟨1, by omega, by go_num, hfin.out⟩
      case measure => simp [intOf]
    · obtain rfl : n = 1 := by omega
      simp only [if_neg (show ¬ (1 : Nat) = 0 by omega)] at hP
      have p0 := own_cell hP (o := 0) rfl
      have p1 := own_cell hP (o := 1) rfl
      have r0 := own_cell hR (o := 0) rfl
      have r1 := own_cell hR (o := 1) rfl
      have f0 := own_frozen hR 0
      have f1 := own_frozen hR 1
      have hlt := own_lt hP
      have hltR := own_lt hR
      go_wp2
      have hZ := set_block12 (i := 1) (v := .int .i64 sh) (set_block12 (i := 0) (v := .string s) hR)
      simp only [List.setIfInBounds_toArray, List.set_cons_zero, List.set_cons_succ] at hZ
      have hbz : Below w.heap.size w ((wr.setCell ⟨w.heap.size, 0, none⟩ (.string s)).setCell ⟨w.heap.size, 1, none⟩ (.int .i64 sh)) := (hbw.setCell (Nat.le_refl _) _).setCell (Nat.le_refl _) _
      generalize (wr.setCell ⟨w.heap.size, 0, none⟩ (.string s)).setCell ⟨w.heap.size, 1, none⟩ (.int .i64 sh) = wz at *
      have hlz := own_lt hZ
      have z0 := own_cell hZ (o := 0) rfl
      have z1 := own_cell hZ (o := 1) rfl
      refine bodyPost_ret (v := .agg #[.string s, .int .i64 sh]) (by simp [results, Try.results78, go_sem, z0, z1, hlz]) rfl ?_
      exact ⟨rfl, hbz⟩
end Go.Proofs.Ytomnnhmhmehdjaa
