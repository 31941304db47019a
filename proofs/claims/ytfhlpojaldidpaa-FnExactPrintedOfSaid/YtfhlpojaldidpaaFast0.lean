/- The earliest strokes of bars as data, and the program's freeTick. -/
import Derived.Test.YtfhlpojaldidpaaSlow
import Derived.Test.YtfhlpojaldidpaaStrokeO
namespace Go.Proofs.Ytfhlpojaldidpaa
open Go.RowKit
set_option linter.unusedVariables false
set_option linter.unusedSimpArgs false

def freeT (b : BasketD) (bar : Int) : Int → List StrokeD → Int
  | m, [] => m
  | m, s :: r => freeT b bar (max m (s.tick + waitI b s.bar bar)) r
theorem freeT_drop {b : BasketD} {bar m : Int} {xs : List StrokeD} {k : Nat} {s : StrokeD} (hs : xs[k]? = some s) : freeT b bar m (xs.drop k) = freeT b bar (max m (s.tick + waitI b s.bar bar)) (xs.drop (k + 1)) := by
  obtain ⟨h1, rfl⟩ := List.getElem?_eq_some_iff.1 hs
  rw [List.drop_eq_getElem_cons h1]
  rfl
theorem freeT_end {b : BasketD} {bar m : Int} {xs : List StrokeD} {k : Nat} (h : xs.length = k) : freeT b bar m (xs.drop k) = m := by
  rw [List.drop_of_length_le (by omega)]
  rfl
theorem freeT_max (b : BasketD) (bar : Int) : ∀ (l : List StrokeD) (m : Int), 0 ≤ m → freeT b bar m l = max m (freeT b bar 0 l)
  | [], m, h => by simp only [freeT]; omega
  | s :: r, m, h => by
    simp only [freeT]
    rw [freeT_max b bar r (max m (s.tick + waitI b s.bar bar)) (by omega), freeT_max b bar r (max 0 (s.tick + waitI b s.bar bar)) (by omega)]
    omega
theorem freeT_ge (b : BasketD) (bar : Int) : ∀ (l : List StrokeD) (m : Int), m ≤ freeT b bar m l ∧ ∀ s ∈ l, s.tick + waitI b s.bar bar ≤ freeT b bar m l
  | [], m => ⟨Int.le_refl _, fun s hs => by cases hs⟩
  | x :: r, m => by
    obtain ⟨h1, h2⟩ := freeT_ge b bar r (max m (x.tick + waitI b x.bar bar))
    simp only [freeT]
    refine ⟨by omega, fun s hs => ?_⟩
    rcases List.mem_cons.1 hs with rfl | hs
    · omega
    · exact h2 s hs
theorem freeT_le {b : BasketD} (hok : basketOk b = true) (bar : Int) (M : Int) : ∀ (l : List StrokeD) (m : Int), (∀ s ∈ l, s.tick ≤ M) → m ≤ M + 200 → freeT b bar m l ≤ M + 200
  | [], m, _, h => h
  | x :: r, m, hl, h => by
    simp only [freeT]
    have h1 := (waitI_range hok x.bar bar).2
    have h2 := hl x (by simp)
    exact freeT_le hok bar M r _ (fun s hs => hl s (by simp [hs])) (by omega)
/-- The earliest strokes of the first k bars; the last of their ticks. -/
def fastAt (b : BasketD) (xs : List Int) : Nat → List StrokeD
  | 0 => []
  | k + 1 => fastAt b xs k ++ [⟨xs.getD k 0, freeT b (xs.getD k 0) 0 (fastAt b xs k)⟩]
def atAt (b : BasketD) (xs : List Int) : Nat → Int
  | 0 => 0
  | k + 1 => freeT b (xs.getD k 0) 0 (fastAt b xs k)
theorem fastAt_length (b : BasketD) (xs : List Int) : ∀ k, (fastAt b xs k).length = k
  | 0 => rfl
  | k + 1 => by simp [fastAt, fastAt_length b xs k]
theorem fastAt_succ (b : BasketD) (xs : List Int) (k : Nat) {x : Int} (hx : xs[k]? = some x) : fastAt b xs (k + 1) = fastAt b xs k ++ [⟨x, freeT b x 0 (fastAt b xs k)⟩] ∧ atAt b xs (k + 1) = freeT b x 0 (fastAt b xs k) := by
  constructor <;> simp only [fastAt, atAt, getD_of hx]
theorem fastAt_last (b : BasketD) (xs : List Int) (k : Nat) : (fastAt b xs (k + 1))[k]? = some ⟨xs.getD k 0, atAt b xs (k + 1)⟩ := by
  simp only [fastAt, atAt]
  rw [List.getElem?_append_right (by rw [fastAt_length]; exact Nat.le_refl _), fastAt_length, Nat.sub_self]
  rfl
theorem fastAt_ok {b : BasketD} {xs : List Int} (hok : basketOk b = true) (hbars : ∀ (i : Nat) (x : Int), xs[i]? = some x → hasBar b x = true) :
    ∀ k, k ≤ xs.length → (∀ s ∈ fastAt b xs k, hasBar b s.bar = true ∧ 0 ≤ s.tick ∧ s.tick ≤ 200 * k) ∧ 0 ≤ atAt b xs k ∧ atAt b xs k ≤ 200 * k
  | 0, _ => ⟨fun s hs => by simp [fastAt] at hs, by simp [atAt], by simp [atAt]⟩
  | k + 1, hk => by
    obtain ⟨h1, h2, h3⟩ := fastAt_ok hok hbars k (by omega)
    have hx : xs[k]? = some (xs[k]'(by omega)) := List.getElem?_eq_getElem (by omega)
    generalize xs[k]'(by omega) = x at hx
    obtain ⟨e1, e2⟩ := fastAt_succ b xs k hx
    have h4 := (freeT_ge b x (fastAt b xs k) 0).1
    have h5 := freeT_le hok x (200 * (k : Int)) (fastAt b xs k) 0 (fun s hs => (h1 s hs).2.2) (by omega)
    refine ⟨fun s hs => ?_, by rw [e2]; omega, by rw [e2]; push_cast; omega⟩
    rw [e1] at hs
    rcases List.mem_append.1 hs with hs | hs
    · obtain ⟨a1, a2, a3⟩ := h1 s hs
      exact ⟨a1, a2, by push_cast; omega⟩
    · simp only [List.mem_singleton] at hs
      subst hs
      exact ⟨hbars k x hx, by simp only; omega, by simp only; push_cast; omega⟩
/-- The model carries the tick on: it is never above what is free. -/
theorem atAt_free {b : BasketD} {xs : List Int} (hok : basketOk b = true) (hbars : ∀ (i : Nat) (x : Int), xs[i]? = some x → hasBar b x = true) {k : Nat} (hk : k ≤ xs.length) (bar : Int) :
    freeT b bar (atAt b xs k) (fastAt b xs k) = freeT b bar 0 (fastAt b xs k) := by
  rw [freeT_max b bar _ _ (fastAt_ok hok hbars k hk).2.1]
  cases k with
  | zero => simp [atAt, fastAt, freeT]
  | succ p =>
    have h1 := (freeT_ge b bar (fastAt b xs (p + 1)) 0).2 ⟨xs.getD p 0, atAt b xs (p + 1)⟩ (List.mem_of_getElem? (fastAt_last b xs p))
    have h2 := (waitI_range hok (xs.getD p 0) bar).1
    simp only at h1
    omega

theorem max_b (a b : Int) (w : World) : Calls Try.prog 156 #[.int .i64 a, .int .i64 b] w fun e w' => e = .returned (.int .i64 (max a b)) ∧ Below w.heap.size w w' :=
  (max_spec a b w).mono fun _ _ ⟨h, e⟩ => ⟨h, e ▸ Below.refl _ _⟩

set_option maxRecDepth 100000 in
set_option maxHeartbeats 1600000 in
theorem free_impl (b : BasketD) (A : Option Addr) (n c : Nat) (l : List StrokeD) (bar : Int) (w : World) (hok : basketOk b = true) (hbar : hasBar b bar = true) (h : Strokes w A n l) (hn : n ≤ 60) (hl : ∀ s ∈ l, hasBar b s.bar = true ∧ 0 ≤ s.tick ∧ s.tick ≤ 12000) :
    Calls Try.prog 140 #[.agg #[.int .i64 b.bars, .int .i64 b.rise, .int .i64 b.fall, .int .i64 b.clear, .int .i64 b.near], .slice A n c, .int .i64 bar] w fun e w' => e = .returned (.int .i64 (freeT b bar 0 l)) ∧ Below w.heap.size w w' := by
  generalize hr : freeT b bar 0 l = r
  replace hr := Lib.hid hr.symm
  replace hl := Lib.hid hl
  have hnew := fun W t => BoxB.new W b t
  replace hnew := Lib.hid hnew
  have hl0 := h.1
  go_enter Try.func140, Try.ntmps140
  go_wp2
  have hbox := Lib.hid (hnew.out w 25)
  generalize hw0 : w.alloc (.cells #[.int .i64 b.bars, .int .i64 b.rise, .int .i64 b.fall, .int .i64 b.clear, .int .i64 b.near] 25) = w0
  rw [hw0] at hbox
  have hb0 : Below w.heap.size w w0 := hw0 ▸ below_a1 _ _
  have hS := h.below hb0
  replace hb0 := Lib.hid hb0
  clear hw0 h hnew
  generalize hN : w.heap.size = N at *
  replace hN := Lib.hid hN
  go_loopw [7, 12] (fun a i wr => ∃ (k : Nat) (m : Int), k ≤ n ∧ i = .int .i64 k ∧ a = .int .i64 m ∧ 0 ≤ m ∧ m ≤ 12200 ∧ Below w0.heap.size w0 wr ∧ freeT b bar 0 l = freeT b bar m (l.drop k)) (fun _ i _ => n - (intOf i).toNat)
  case atStart => exact ⟨0, 0, by omega, rfl, rfl, by omega, by omega, Below.refl _ _, rfl⟩
  case round =>
    obtain ⟨k, m, hk, rfl, rfl, hm0, hm1, hbw, he⟩ := hrel
    replace he := Lib.hid he
    by_cases hlt : k < n
    · obtain ⟨bb, off, s, rfl, hb', hx, c0, c1⟩ := stroke_at (hS.below hbw) hlt
      obtain ⟨l1, l2, l3⟩ := hl.out s (List.mem_of_getElem? hx.out)
      obtain ⟨d0, d1, d2, d3, d4⟩ := (hbox.out.step hbw).step (below_a1 wr (.cells #[.int .i64 s.bar, .int .i64 s.tick] 39))
      have hj := fun W => wait_impl b s.bar bar hok l1 hbar W
      obtain ⟨z1, z2⟩ := waitI_range hok s.bar bar
      have hst := Lib.hid (freeT_drop (b := b) (bar := bar) (m := m) hx.out)
      generalize waitI b s.bar bar = W1 at *
      replace hj := Lib.hid hj
      have f0 : (wr.alloc (.cells #[.int .i64 s.bar, .int .i64 s.tick] 39)).cell? ⟨wr.heap.size, 0, none⟩ = some (.int .i64 s.bar) := cell_new rfl rfl
      have f1 : (wr.alloc (.cells #[.int .i64 s.bar, .int .i64 s.tick] 39)).cell? ⟨wr.heap.size, 1, none⟩ = some (.int .i64 s.tick) := cell_new rfl rfl
      have hbp := hbw.step (below_a1 wr (.cells #[.int .i64 s.bar, .int .i64 s.tick] 39))
      have s1 : IntKind.i64.wrap (s.tick + W1) = s.tick + W1 := IntWalk.i64_in _ (by omega)
      by_cases hgt : m < s.tick + W1
      · have hnx : Hid (freeT b bar 0 l = freeT b bar (s.tick + W1) (l.drop (k + 1))) := Lib.hid (by rw [he.out, hst.out]; congr 1; omega)
        go_wp2_with fail
        generalize hwp : wr.alloc (.cells #[.int .i64 s.bar, .int .i64 s.tick] 39) = wp at *
        generalize hM : wr.heap.size = M at *
        clear hwp hM c0 c1 hb'
        refine wp_region_held_drew (S := fun w' => Below wp.heap.size wp w' ∧ w'.cell? ⟨N, 0, none⟩ = some (.int .i64 b.bars) ∧ w'.cell? ⟨N, 1, none⟩ = some (.int .i64 b.rise) ∧ w'.cell? ⟨N, 2, none⟩ = some (.int .i64 b.fall) ∧ w'.cell? ⟨N, 3, none⟩ = some (.int .i64 b.clear) ∧ w'.cell? ⟨N, 4, none⟩ = some (.int .i64 b.near) ∧ w'.cell? ⟨M, 0, none⟩ = some (.int .i64 s.bar) ∧ w'.cell? ⟨M, 1, none⟩ = some (.int .i64 s.tick)) (by kernel_rfl) ?_ (fun hHeld => ?_)
        · exact ⟨(Below.refl _ _).drew, d0, d1, d2, d3, d4, f0, f1⟩
        refine wpAnyH_take (i := 0) (v := ?va0) rfl (by kernel_rfl) (by kernel_rfl) (by kernel_rfl) (fun _ _ _ h => h) (Or.inl ⟨rfl, ?ya0⟩) (by assumption) ?_
        case ya0 => (intro w hSw; (try dsimp only at hSw); go_simp; first | done | with_reducible rfl)
        simp only [List.getElem_toArray, List.getElem_cons_succ, List.getElem_cons_zero, Act.put, List.setIfInBounds_toArray, List.set_cons_zero, List.set_cons_succ]
        refine wpAnyH_take (i := 1) (v := ?va1) rfl (by kernel_rfl) (by kernel_rfl) (by kernel_rfl) (fun _ _ _ h => h) (Or.inl ⟨rfl, ?ya1⟩) (by assumption) ?_
        case ya1 => (intro w hSw; (try dsimp only at hSw); go_simp; first | done | with_reducible rfl)
        simp only [List.getElem_toArray, List.getElem_cons_succ, List.getElem_cons_zero, Act.put, List.setIfInBounds_toArray, List.set_cons_zero, List.set_cons_succ]
        refine wpAnyH_take (i := 2) (v := ?va2) rfl (by kernel_rfl) (by kernel_rfl) (by kernel_rfl) (fun _ _ _ h => h) (Or.inl ⟨rfl, ?ya2⟩) (by assumption) ?_
        case ya2 => (intro w hSw; (try dsimp only at hSw); go_simp; first | done | with_reducible rfl)
        simp only [List.getElem_toArray, List.getElem_cons_succ, List.getElem_cons_zero, Act.put, List.setIfInBounds_toArray, List.set_cons_zero, List.set_cons_succ]
        refine wpAnyH_take (i := 3) (v := ?va3) rfl (by kernel_rfl) (by kernel_rfl) (by kernel_rfl) (fun _ _ _ h => h) (Or.inl ⟨rfl, ?ya3⟩) (by assumption) ?_
        case ya3 => (intro w hSw; (try dsimp only at hSw); go_simp; first | done | with_reducible rfl)
        simp only [List.getElem_toArray, List.getElem_cons_succ, List.getElem_cons_zero, Act.put, List.setIfInBounds_toArray, List.set_cons_zero, List.set_cons_succ]
        refine wpAnyH_take (i := 4) (v := ?va4) rfl (by kernel_rfl) (by kernel_rfl) (by kernel_rfl) (fun _ _ _ h => h) (Or.inl ⟨rfl, ?ya4⟩) (by assumption) ?_
        case ya4 => (intro w hSw; (try dsimp only at hSw); go_simp; first | done | with_reducible rfl)
        simp only [List.getElem_toArray, List.getElem_cons_succ, List.getElem_cons_zero, Act.put, List.setIfInBounds_toArray, List.set_cons_zero, List.set_cons_succ]
        refine wpAnyH_take (i := 5) (v := ?va5) rfl (by kernel_rfl) (by kernel_rfl) (by kernel_rfl) (fun _ _ _ h => h) (Or.inl ⟨rfl, ?ya5⟩) (by assumption) ?_
        case ya5 => (intro w hSw; (try dsimp only at hSw); go_simp; first | done | with_reducible rfl)
        simp only [List.getElem_toArray, List.getElem_cons_succ, List.getElem_cons_zero, Act.put, List.setIfInBounds_toArray, List.set_cons_zero, List.set_cons_succ]
        refine wpAnyH_take (i := 6) (v := ?va6) rfl (by kernel_rfl) (by kernel_rfl) (by kernel_rfl) (fun _ _ _ h => h) (Or.inl ⟨rfl, ?ya6⟩) (by assumption) ?_
        case ya6 => (intro w hSw; (try dsimp only at hSw); go_simp; first | done | with_reducible rfl)
        simp only [List.getElem_toArray, List.getElem_cons_succ, List.getElem_cons_zero, Act.put, List.setIfInBounds_toArray, List.set_cons_zero, List.set_cons_succ]
        refine wpAnyH_ready (rs := [7]) (by kernel_rfl) (by simp) ?_
        refine AllReadyH.cons rfl (fun K hK => ?_) AllReadyH.nil
        go_simp
        refine (hj.out _).mono ?_
        rintro e w1 ⟨rfl, hb1⟩
        go_wp2_with fail
        refine hK.out _ _ ?_ (fun hHeld => ?_)
        · exact kept7 (by assumption) hb1
        clear hK K hb1
        try simp only [List.getElem_toArray, List.getElem_cons_succ, List.getElem_cons_zero, Act.put, List.setIfInBounds_toArray, List.set_cons_zero, List.set_cons_succ]
        refine wpAnyH_take (i := 8) (v := ?va8) rfl (by kernel_rfl) (by kernel_rfl) (by kernel_rfl) (fun _ _ _ h => h) (Or.inl ⟨rfl, ?ya8⟩) (by assumption) ?_
        case ya8 => (intro w hSw; (try dsimp only at hSw); go_simp; first | done | with_reducible rfl)
        simp only [List.getElem_toArray, List.getElem_cons_succ, List.getElem_cons_zero, Act.put, List.setIfInBounds_toArray, List.set_cons_zero, List.set_cons_succ]
        refine wpAnyH_take (i := 9) (v := ?va9) rfl (by kernel_rfl) (by kernel_rfl) (by kernel_rfl) (fun _ _ _ h => h) (Or.inl ⟨rfl, ?ya9⟩) (by assumption) ?_
        case ya9 => (intro w hSw; (try dsimp only at hSw); go_simp; first | done | with_reducible rfl)
        simp only [List.getElem_toArray, List.getElem_cons_succ, List.getElem_cons_zero, Act.put, List.setIfInBounds_toArray, List.set_cons_zero, List.set_cons_succ]
        refine wpAnyH_take (i := 10) (v := ?va10) rfl (by kernel_rfl) (by kernel_rfl) (by kernel_rfl) (fun _ _ _ h => h) (Or.inl ⟨rfl, ?ya10⟩) (by assumption) ?_
        case ya10 => (intro w hSw; (try dsimp only at hSw); go_simp; first | done | with_reducible rfl)
        simp only [List.getElem_toArray, List.getElem_cons_succ, List.getElem_cons_zero, Act.put, List.setIfInBounds_toArray, List.set_cons_zero, List.set_cons_succ]
        refine wpAnyH_done (by kernel_rfl) ?_ _
        clear s1
        go_wp2
        go_roundw
        case rel => exact ⟨k + 1, s.tick + W1, by omega, by go_num, rfl, by omega, by omega, hbp.step hHeld.1, hnx.out⟩
        case measure => simp [intOf]; omega
      · have hnx : Hid (freeT b bar 0 l = freeT b bar m (l.drop (k + 1))) := Lib.hid (by rw [he.out, hst.out]; congr 1; omega)
        go_wp2_with fail
        generalize hwp : wr.alloc (.cells #[.int .i64 s.bar, .int .i64 s.tick] 39) = wp at *
        generalize hM : wr.heap.size = M at *
        clear hwp hM c0 c1 hb'
        refine wp_region_held_drew (S := fun w' => Below wp.heap.size wp w' ∧ w'.cell? ⟨N, 0, none⟩ = some (.int .i64 b.bars) ∧ w'.cell? ⟨N, 1, none⟩ = some (.int .i64 b.rise) ∧ w'.cell? ⟨N, 2, none⟩ = some (.int .i64 b.fall) ∧ w'.cell? ⟨N, 3, none⟩ = some (.int .i64 b.clear) ∧ w'.cell? ⟨N, 4, none⟩ = some (.int .i64 b.near) ∧ w'.cell? ⟨M, 0, none⟩ = some (.int .i64 s.bar) ∧ w'.cell? ⟨M, 1, none⟩ = some (.int .i64 s.tick)) (by kernel_rfl) ?_ (fun hHeld => ?_)
        · exact ⟨(Below.refl _ _).drew, d0, d1, d2, d3, d4, f0, f1⟩
        refine wpAnyH_take (i := 0) (v := ?vb0) rfl (by kernel_rfl) (by kernel_rfl) (by kernel_rfl) (fun _ _ _ h => h) (Or.inl ⟨rfl, ?yb0⟩) (by assumption) ?_
        case yb0 => (intro w hSw; (try dsimp only at hSw); go_simp; first | done | with_reducible rfl)
        simp only [List.getElem_toArray, List.getElem_cons_succ, List.getElem_cons_zero, Act.put, List.setIfInBounds_toArray, List.set_cons_zero, List.set_cons_succ]
        refine wpAnyH_take (i := 1) (v := ?vb1) rfl (by kernel_rfl) (by kernel_rfl) (by kernel_rfl) (fun _ _ _ h => h) (Or.inl ⟨rfl, ?yb1⟩) (by assumption) ?_
        case yb1 => (intro w hSw; (try dsimp only at hSw); go_simp; first | done | with_reducible rfl)
        simp only [List.getElem_toArray, List.getElem_cons_succ, List.getElem_cons_zero, Act.put, List.setIfInBounds_toArray, List.set_cons_zero, List.set_cons_succ]
        refine wpAnyH_take (i := 2) (v := ?vb2) rfl (by kernel_rfl) (by kernel_rfl) (by kernel_rfl) (fun _ _ _ h => h) (Or.inl ⟨rfl, ?yb2⟩) (by assumption) ?_
        case yb2 => (intro w hSw; (try dsimp only at hSw); go_simp; first | done | with_reducible rfl)
        simp only [List.getElem_toArray, List.getElem_cons_succ, List.getElem_cons_zero, Act.put, List.setIfInBounds_toArray, List.set_cons_zero, List.set_cons_succ]
        refine wpAnyH_take (i := 3) (v := ?vb3) rfl (by kernel_rfl) (by kernel_rfl) (by kernel_rfl) (fun _ _ _ h => h) (Or.inl ⟨rfl, ?yb3⟩) (by assumption) ?_
        case yb3 => (intro w hSw; (try dsimp only at hSw); go_simp; first | done | with_reducible rfl)
        simp only [List.getElem_toArray, List.getElem_cons_succ, List.getElem_cons_zero, Act.put, List.setIfInBounds_toArray, List.set_cons_zero, List.set_cons_succ]
        refine wpAnyH_take (i := 4) (v := ?vb4) rfl (by kernel_rfl) (by kernel_rfl) (by kernel_rfl) (fun _ _ _ h => h) (Or.inl ⟨rfl, ?yb4⟩) (by assumption) ?_
        case yb4 => (intro w hSw; (try dsimp only at hSw); go_simp; first | done | with_reducible rfl)
        simp only [List.getElem_toArray, List.getElem_cons_succ, List.getElem_cons_zero, Act.put, List.setIfInBounds_toArray, List.set_cons_zero, List.set_cons_succ]
        refine wpAnyH_take (i := 5) (v := ?vb5) rfl (by kernel_rfl) (by kernel_rfl) (by kernel_rfl) (fun _ _ _ h => h) (Or.inl ⟨rfl, ?yb5⟩) (by assumption) ?_
        case yb5 => (intro w hSw; (try dsimp only at hSw); go_simp; first | done | with_reducible rfl)
        simp only [List.getElem_toArray, List.getElem_cons_succ, List.getElem_cons_zero, Act.put, List.setIfInBounds_toArray, List.set_cons_zero, List.set_cons_succ]
        refine wpAnyH_take (i := 6) (v := ?vb6) rfl (by kernel_rfl) (by kernel_rfl) (by kernel_rfl) (fun _ _ _ h => h) (Or.inl ⟨rfl, ?yb6⟩) (by assumption) ?_
        case yb6 => (intro w hSw; (try dsimp only at hSw); go_simp; first | done | with_reducible rfl)
        simp only [List.getElem_toArray, List.getElem_cons_succ, List.getElem_cons_zero, Act.put, List.setIfInBounds_toArray, List.set_cons_zero, List.set_cons_succ]
        refine wpAnyH_ready (rs := [7]) (by kernel_rfl) (by simp) ?_
        refine AllReadyH.cons rfl (fun K hK => ?_) AllReadyH.nil
        go_simp
        refine (hj.out _).mono ?_
        rintro e w1 ⟨rfl, hb1⟩
        go_wp2_with fail
        refine hK.out _ _ ?_ (fun hHeld => ?_)
        · exact kept7 (by assumption) hb1
        clear hK K hb1
        try simp only [List.getElem_toArray, List.getElem_cons_succ, List.getElem_cons_zero, Act.put, List.setIfInBounds_toArray, List.set_cons_zero, List.set_cons_succ]
        refine wpAnyH_take (i := 8) (v := ?vb8) rfl (by kernel_rfl) (by kernel_rfl) (by kernel_rfl) (fun _ _ _ h => h) (Or.inl ⟨rfl, ?yb8⟩) (by assumption) ?_
        case yb8 => (intro w hSw; (try dsimp only at hSw); go_simp; first | done | with_reducible rfl)
        simp only [List.getElem_toArray, List.getElem_cons_succ, List.getElem_cons_zero, Act.put, List.setIfInBounds_toArray, List.set_cons_zero, List.set_cons_succ]
        refine wpAnyH_take (i := 9) (v := ?vb9) rfl (by kernel_rfl) (by kernel_rfl) (by kernel_rfl) (fun _ _ _ h => h) (Or.inl ⟨rfl, ?yb9⟩) (by assumption) ?_
        case yb9 => (intro w hSw; (try dsimp only at hSw); go_simp; first | done | with_reducible rfl)
        simp only [List.getElem_toArray, List.getElem_cons_succ, List.getElem_cons_zero, Act.put, List.setIfInBounds_toArray, List.set_cons_zero, List.set_cons_succ]
        refine wpAnyH_take (i := 10) (v := ?vb10) rfl (by kernel_rfl) (by kernel_rfl) (by kernel_rfl) (fun _ _ _ h => h) (Or.inl ⟨rfl, ?yb10⟩) (by assumption) ?_
        case yb10 => (intro w hSw; (try dsimp only at hSw); go_simp; first | done | with_reducible rfl)
        simp only [List.getElem_toArray, List.getElem_cons_succ, List.getElem_cons_zero, Act.put, List.setIfInBounds_toArray, List.set_cons_zero, List.set_cons_succ]
        refine wpAnyH_done (by kernel_rfl) ?_ _
        clear s1
        go_wp2
        go_roundw
        case rel => exact ⟨k + 1, m, by omega, by go_num, by rw [if_neg (by omega)], by omega, by omega, hbp.step hHeld.1, hnx.out⟩
        case measure => simp [intOf]; omega
    · obtain rfl : k = n := by omega
      have hr2 : Hid (r = m) := Lib.hid (by rw [hr.out, he.out, freeT_end hl0])
      go_wp2
      go_ret
      obtain rfl := hN.out
      exact ⟨ret_i64 hr2.out.symm, hb0.out.step hbw⟩
end Go.Proofs.Ytfhlpojaldidpaa
