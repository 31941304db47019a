/- The earliest strokes of bars as data, and the program's freeTick. -/
import Derived.Test.YtndodlfmjdgpcaaSlow
import Derived.Test.YtndodlfmjdgpcaaStrokeO
namespace Go.Proofs.Ytndodlfmjdgpcaa
open Go.RowKit
set_option linter.unusedVariables false
set_option linter.unusedSimpArgs false

def freeT (b : BasketD) (bar : Int) : Int → List StrokeD → Int
  | m, [] => m
  | m, s :: r => freeT b bar (max m (s.tick + waitI b s.bar bar)) r
theorem freeT_drop {b : BasketD} {bar m : Int} {xs : List StrokeD} {k : Nat} {s : StrokeD} (hs : xs[k]? = some s) : freeT b bar m (xs.drop k) = freeT b bar (max m (s.tick + waitI b s.bar bar)) (xs.drop (k + 1)) := by
  obtain ⟨h1, rfl⟩ := List.getElem?_eq_some_iff.1 hs
  rw [List.drop_eq_getElem_cons h1]
  rfl
theorem freeT_end {b : BasketD} {bar m : Int} {xs : List StrokeD} {k : Nat} (h : xs.length = k) : freeT b bar m (xs.drop k) = m := by
  rw [List.drop_of_length_le (by omega)]
  rfl
theorem freeT_max (b : BasketD) (bar : Int) : ∀ (l : List StrokeD) (m : Int), 0 ≤ m → freeT b bar m l = max m (freeT b bar 0 l)
  | [], m, h => by simp only [freeT]; omega
  | s :: r, m, h => by
    simp only [freeT]
    rw [freeT_max b bar r (max m (s.tick + waitI b s.bar bar)) (by omega), freeT_max b bar r (max 0 (s.tick + waitI b s.bar bar)) (by omega)]
    omega
theorem freeT_ge (b : BasketD) (bar : Int) : ∀ (l : List StrokeD) (m : Int), m ≤ freeT b bar m l ∧ ∀ s ∈ l, s.tick + waitI b s.bar bar ≤ freeT b bar m l
  | [], m => ⟨Int.le_refl _, fun s hs => by cases hs⟩
  | x :: r, m => by
    obtain ⟨h1, h2⟩ := freeT_ge b bar r (max m (x.tick + waitI b x.bar bar))
    simp only [freeT]
    refine ⟨by omega, fun s hs => ?_⟩
    rcases List.mem_cons.1 hs with rfl | hs
    · omega
    · exact h2 s hs
theorem freeT_le {b : BasketD} (hok : basketOk b = true) (bar : Int) (M : Int) : ∀ (l : List StrokeD) (m : Int), (∀ s ∈ l, s.tick ≤ M) → m ≤ M + 200 → freeT b bar m l ≤ M + 200
  | [], m, _, h => h
  | x :: r, m, hl, h => by
    simp only [freeT]
    have h1 := (waitI_range hok x.bar bar).2
    have h2 := hl x (by simp)
    exact freeT_le hok bar M r _ (fun s hs => hl s (by simp [hs])) (by omega)
/-- The earliest strokes of the first k bars; the last of their ticks. -/
def fastAt (b : BasketD) (xs : List Int) : Nat → List StrokeD
  | 0 => []
  | k + 1 => fastAt b xs k ++ [⟨xs.getD k 0, freeT b (xs.getD k 0) 0 (fastAt b xs k)⟩]
def atAt (b : BasketD) (xs : List Int) : Nat → Int
  | 0 => 0
  | k + 1 => freeT b (xs.getD k 0) 0 (fastAt b xs k)
theorem fastAt_length (b : BasketD) (xs : List Int) : ∀ k, (fastAt b xs k).length = k
  | 0 => rfl
  | k + 1 => by simp [fastAt, fastAt_length b xs k]
theorem fastAt_succ (b : BasketD) (xs : List Int) (k : Nat) {x : Int} (hx : xs[k]? = some x) : fastAt b xs (k + 1) = fastAt b xs k ++ [⟨x, freeT b x 0 (fastAt b xs k)⟩] ∧ atAt b xs (k + 1) = freeT b x 0 (fastAt b xs k) := by
  constructor <;> simp only [fastAt, atAt, getD_of hx]
theorem fastAt_last (b : BasketD) (xs : List Int) (k : Nat) : (fastAt b xs (k + 1))[k]? = some ⟨xs.getD k 0, atAt b xs (k + 1)⟩ := by
  simp only [fastAt, atAt]
  rw [List.getElem?_append_right (by rw [fastAt_length]; exact Nat.le_refl _), fastAt_length, Nat.sub_self]
  rfl
theorem fastAt_ok {b : BasketD} {xs : List Int} (hok : basketOk b = true) (hbars : ∀ (i : Nat) (x : Int), xs[i]? = some x → hasBar b x = true) :
    ∀ k, k ≤ xs.length → (∀ s ∈ fastAt b xs k, hasBar b s.bar = true ∧ 0 ≤ s.tick ∧ s.tick ≤ 200 * k) ∧ 0 ≤ atAt b xs k ∧ atAt b xs k ≤ 200 * k
  | 0, _ => ⟨fun s hs => by simp [fastAt] at hs, by simp [atAt], by simp [atAt]⟩
  | k + 1, hk => by
    obtain ⟨h1, h2, h3⟩ := fastAt_ok hok hbars k (by omega)
    have hx : xs[k]? = some (xs[k]'(by omega)) := List.getElem?_eq_getElem (by omega)
    generalize xs[k]'(by omega) = x at hx
    obtain ⟨e1, e2⟩ := fastAt_succ b xs k hx
    have h4 := (freeT_ge b x (fastAt b xs k) 0).1
    have h5 := freeT_le hok x (200 * (k : Int)) (fastAt b xs k) 0 (fun s hs => (h1 s hs).2.2) (by omega)
    refine ⟨fun s hs => ?_, by rw [e2]; omega, by rw [e2]; push_cast; omega⟩
    rw [e1] at hs
    rcases List.mem_append.1 hs with hs | hs
    · obtain ⟨a1, a2, a3⟩ := h1 s hs
      exact ⟨a1, a2, by push_cast; omega⟩
    · simp only [List.mem_singleton] at hs
      subst hs
      exact ⟨hbars k x hx, by simp only; omega, by simp only; push_cast; omega⟩
/-- The model carries the tick on: it is never above what is free. -/
theorem atAt_free {b : BasketD} {xs : List Int} (hok : basketOk b = true) (hbars : ∀ (i : Nat) (x : Int), xs[i]? = some x → hasBar b x = true) {k : Nat} (hk : k ≤ xs.length) (bar : Int) :
    freeT b bar (atAt b xs k) (fastAt b xs k) = freeT b bar 0 (fastAt b xs k) := by
  rw [freeT_max b bar _ _ (fastAt_ok hok hbars k hk).2.1]
  cases k with
  | zero => simp [atAt, fastAt, freeT]
  | succ p =>
    have h1 := (freeT_ge b bar (fastAt b xs (p + 1)) 0).2 ⟨xs.getD p 0, atAt b xs (p + 1)⟩ (List.mem_of_getElem? (fastAt_last b xs p))
    have h2 := (waitI_range hok (xs.getD p 0) bar).1
    simp only at h1
    omega

end Go.Proofs.Ytndodlfmjdgpcaa
