/- Baskets and strokes as data: what chapter 3 says of them. No program is named. -/
import Derived.Test.YtomnnhmhmehdjaaBasketD
import Derived.Test.YtomnnhmhmehdjaaStrokeD
namespace Go.Proofs.Ytomnnhmhmehdjaa
set_option linter.unusedVariables false

def isIn (n lo hi : Int) : Bool := decide (lo ≤ n) && decide (n ≤ hi)
theorem isIn_iff {n lo hi : Int} : isIn n lo hi = true ↔ lo ≤ n ∧ n ≤ hi := by simp [isIn]
theorem isIn_not {n lo hi : Int} : isIn n lo hi = false ↔ ¬ (lo ≤ n ∧ n ≤ hi) := by rw [← isIn_iff]; simp
def basketOk (b : BasketD) : Bool := isIn b.bars 2 60 && (isIn b.rise 1 100 && (isIn b.fall 1 100 && (isIn b.clear 1 100 && isIn b.near 0 100)))
theorem basketOk_iff {b : BasketD} : basketOk b = true ↔ (2 ≤ b.bars ∧ b.bars ≤ 60) ∧ (1 ≤ b.rise ∧ b.rise ≤ 100) ∧ (1 ≤ b.fall ∧ b.fall ≤ 100) ∧ (1 ≤ b.clear ∧ b.clear ≤ 100) ∧ 0 ≤ b.near ∧ b.near ≤ 100 := by
  simp [basketOk, isIn_iff]
def hasBar (b : BasketD) (n : Int) : Bool := isIn n 0 (b.bars - 1)
theorem hasBar_iff {b : BasketD} {n : Int} : hasBar b n = true ↔ 0 ≤ n ∧ n ≤ b.bars - 1 := isIn_iff
/-- Strokes of bars up to hi, none earlier than the one before. -/
def chain (hi : Int) : Int → List StrokeD → Bool
  | _, [] => true
  | least, s :: r => isIn s.bar 0 hi && (isIn s.tick least 1000000 && chain hi s.tick r)
def strokesOk (b : BasketD) (list : List StrokeD) : Bool := basketOk b && (decide (list.length ≤ 60) && chain (b.bars - 1) 0 list)
/-- How long two bars must wait for one another. -/
def waitI (b : BasketD) (a c : Int) : Int := if a = c then b.rise + b.fall else b.clear + max 0 (b.near - max (a - c) (c - a))
theorem waitI_range {b : BasketD} (h : basketOk b = true) (a c : Int) : 1 ≤ waitI b a c ∧ waitI b a c ≤ 200 := by
  rw [basketOk_iff] at h
  unfold waitI
  split <;> omega
theorem waitI_comm (b : BasketD) (a c : Int) : waitI b a c = waitI b c a := by
  unfold waitI
  split
  · rw [if_pos (by omega)]
  · rw [if_neg (by omega)]
    omega
/-- Two strokes jam, x not behind y. -/
def jamB (b : BasketD) (x y : StrokeD) : Bool := decide (y.tick - x.tick < waitI b x.bar y.bar)

theorem chain_cons {hi : Int} {l : Int} {s : StrokeD} {r : List StrokeD} : chain hi l (s :: r) = true ↔ isIn s.bar 0 hi = true ∧ isIn s.tick l 1000000 = true ∧ chain hi s.tick r = true := by simp [chain]
theorem chain_all {hi : Int} : ∀ {list : List StrokeD} {l : Int}, chain hi l list = true → ∀ (k : Nat) (s : StrokeD), list[k]? = some s → isIn s.bar 0 hi = true ∧ l ≤ s.tick ∧ s.tick ≤ 1000000
  | [], _, _, k, s, hs => by simp at hs
  | x :: r, l, h, 0, s, hs => by
    simp at hs
    subst hs
    rw [chain_cons, isIn_iff (n := x.tick)] at h
    exact ⟨h.1, h.2.1⟩
  | x :: r, l, h, k + 1, s, hs => by
    rw [List.getElem?_cons_succ] at hs
    rw [chain_cons, isIn_iff (n := x.tick)] at h
    have h2 := chain_all h.2.2 k s hs
    exact ⟨h2.1, by omega, h2.2.2⟩
theorem chain_le {hi : Int} : ∀ {list : List StrokeD} {l : Int}, chain hi l list = true → ∀ (k i : Nat) (x y : StrokeD), k ≤ i → list[k]? = some x → list[i]? = some y → x.tick ≤ y.tick
  | [], _, _, k, i, x, y, _, hx, _ => by simp at hx
  | z :: r, l, h, 0, 0, x, y, _, hx, hy => by rw [hx] at hy; cases hy; exact Int.le_refl _
  | z :: r, l, h, _ + 1, 0, x, y, hki, hx, hy => by omega
  | z :: r, l, h, 0, i + 1, x, y, _, hx, hy => by
    simp at hx
    subst hx
    rw [List.getElem?_cons_succ] at hy
    rw [chain_cons] at h
    exact (chain_all h.2.2 i y hy).2.1
  | z :: r, l, h, k + 1, i + 1, x, y, hki, hx, hy => by
    rw [List.getElem?_cons_succ] at hx hy
    rw [chain_cons] at h
    exact chain_le h.2.2 k i x y (by omega) hx hy
theorem chain_drop {hi : Int} {xs : List StrokeD} {k : Nat} {l : Int} {s : StrokeD} (hs : xs[k]? = some s) : chain hi l (xs.drop k) = (isIn s.bar 0 hi && (isIn s.tick l 1000000 && chain hi s.tick (xs.drop (k + 1)))) := by
  obtain ⟨h1, rfl⟩ := List.getElem?_eq_some_iff.1 hs
  rw [List.drop_eq_getElem_cons h1]
  rfl
theorem chain_end {hi : Int} {xs : List StrokeD} {k : Nat} {l : Int} (h : xs.length = k) : chain hi l (xs.drop k) = true := by
  rw [List.drop_of_length_le (by omega)]
  rfl

theorem strokesOk_iff {b : BasketD} {list : List StrokeD} : strokesOk b list = true ↔ basketOk b = true ∧ list.length ≤ 60 ∧ chain (b.bars - 1) 0 list = true := by simp [strokesOk]
/-- The first of the strokes before that jams with s. -/
def scanJ (b : BasketD) (s : StrokeD) : Nat → List StrokeD → Option Nat
  | _, [] => none
  | k, x :: r => if jamB b x s then some k else scanJ b s (k + 1) r
def scanI (b : BasketD) (list : List StrokeD) : Nat → List StrokeD → Option (Nat × Nat)
  | _, [] => none
  | i, s :: r => match scanJ b s 0 (list.take i) with
    | some k => some (i, k)
    | none => scanI b list (i + 1) r
theorem scanJ_drop {b : BasketD} {s x : StrokeD} {l : List StrokeD} {k : Nat} (hx : l[k]? = some x) : scanJ b s k (l.drop k) = if jamB b x s then some k else scanJ b s (k + 1) (l.drop (k + 1)) := by
  obtain ⟨h1, rfl⟩ := List.getElem?_eq_some_iff.1 hx
  rw [List.drop_eq_getElem_cons h1]
  rfl
theorem scanJ_end {b : BasketD} {s : StrokeD} {l : List StrokeD} {k : Nat} (h : l.length = k) : scanJ b s k (l.drop k) = none := by
  rw [List.drop_of_length_le (by omega)]
  rfl
theorem scanI_yes {b : BasketD} {xs : List StrokeD} {i k : Nat} {s : StrokeD} (hs : xs[i]? = some s) (h : scanJ b s 0 (xs.take i) = some k) : scanI b xs i (xs.drop i) = some (i, k) := by
  obtain ⟨h1, rfl⟩ := List.getElem?_eq_some_iff.1 hs
  rw [List.drop_eq_getElem_cons h1]
  simp only [scanI, h]
theorem scanI_no {b : BasketD} {xs : List StrokeD} {i : Nat} {s : StrokeD} (hs : xs[i]? = some s) (h : scanJ b s 0 (xs.take i) = none) : scanI b xs i (xs.drop i) = scanI b xs (i + 1) (xs.drop (i + 1)) := by
  obtain ⟨h1, rfl⟩ := List.getElem?_eq_some_iff.1 hs
  rw [List.drop_eq_getElem_cons h1]
  simp only [scanI, h]
theorem scanI_end {b : BasketD} {xs : List StrokeD} {k : Nat} (h : xs.length = k) : scanI b xs k (xs.drop k) = none := by
  rw [List.drop_of_length_le (by omega)]
  rfl

/-- How many of the strokes before jam with s; how many pairs from the stroke i on. -/
def cntJ (b : BasketD) (s : StrokeD) : List StrokeD → Nat
  | [] => 0
  | x :: r => (if jamB b x s then 1 else 0) + cntJ b s r
def cntI (b : BasketD) (list : List StrokeD) : Nat → List StrokeD → Nat
  | _, [] => 0
  | i, s :: r => cntJ b s (list.take i) + cntI b list (i + 1) r
theorem cntJ_drop {b : BasketD} {s x : StrokeD} {l : List StrokeD} {k : Nat} (hx : l[k]? = some x) : cntJ b s (l.drop k) = (if jamB b x s then 1 else 0) + cntJ b s (l.drop (k + 1)) := by
  obtain ⟨h1, rfl⟩ := List.getElem?_eq_some_iff.1 hx
  rw [List.drop_eq_getElem_cons h1]
  rfl
theorem cntJ_end {b : BasketD} {s : StrokeD} {l : List StrokeD} {k : Nat} (h : l.length = k) : cntJ b s (l.drop k) = 0 := by
  rw [List.drop_of_length_le (by omega)]
  rfl
theorem cntI_drop {b : BasketD} {xs : List StrokeD} {i : Nat} {s : StrokeD} (hs : xs[i]? = some s) : cntI b xs i (xs.drop i) = cntJ b s (xs.take i) + cntI b xs (i + 1) (xs.drop (i + 1)) := by
  obtain ⟨h1, rfl⟩ := List.getElem?_eq_some_iff.1 hs
  rw [List.drop_eq_getElem_cons h1]
  rfl
theorem cntI_end {b : BasketD} {xs : List StrokeD} {k : Nat} (h : xs.length = k) : cntI b xs k (xs.drop k) = 0 := by
  rw [List.drop_of_length_le (by omega)]
  rfl
theorem cntJ_le (b : BasketD) (s : StrokeD) : ∀ l : List StrokeD, cntJ b s l ≤ l.length
  | [] => Nat.le_refl _
  | x :: r => by
    have := cntJ_le b s r
    simp only [cntJ, List.length_cons]
    split <;> omega
end Go.Proofs.Ytomnnhmhmehdjaa
