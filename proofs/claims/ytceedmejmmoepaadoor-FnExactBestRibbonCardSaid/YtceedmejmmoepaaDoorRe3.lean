/- Ribbons: the program's BestRibbon. -/
import Derived.Test.YtceedmejmmoepaaDoorRe2
namespace Go.Proofs.YtceedmejmmoepaaDoor
open Go.RowKit Go.ChangeShapes Go.WideShapes Go.Deep
set_option linter.unusedVariables false
set_option linter.unusedSimpArgs false

/-- What one ribbon costs. -/
def costV (xs : List RibbonD) (ps : List Int) (n l : Int) (x : Int) : Int := match xs[x.toNat]?, ps[x.toNat]? with
  | some r, some p => p * manyV r n l
  | _, _ => 0
def stepG (f : Int → Int) (b : Int × Int) (x : Int) : Int × Int := if f x < b.2 then (x, f x) else b
def flG (f : Int → Int) : List Int → Int × Int
  | [] => (0, 0)
  | x :: r => r.foldl (stepG f) (x, f x)
theorem foldG_nn (f : Int → Int) : ∀ (r : List Int) (b : Int × Int), 0 ≤ b.1 → (∀ y ∈ r, 0 ≤ y) → 0 ≤ (r.foldl (stepG f) b).1
  | [], b, h, _ => h
  | y :: r, b, h, hr => by
    rw [List.foldl_cons]
    refine foldG_nn f r _ ?_ (fun z hz => hr z (by simp [hz]))
    unfold stepG
    split
    · exact hr y (by simp)
    · exact h
theorem flG_nn (f : Int → Int) {L : List Int} (hne : L ≠ []) (h : ∀ y ∈ L, 0 ≤ y) : 0 ≤ (flG f L).1 := by
  cases L with
  | nil => exact absurd rfl hne
  | cons x r => exact foldG_nn f r _ (h x (by simp)) (fun y hy => h y (by simp [hy]))
theorem flG_snoc (f : Int → Int) {L : List Int} (hne : L ≠ []) (x : Int) : flG f (L ++ [x]) = stepG f (flG f L) x := by
  cases L with
  | nil => exact absurd rfl hne
  | cons y r => simp [flG, List.foldl_append]
theorem bs_idx (xs : List RibbonD) (ps : List Int) (n l : Int) (hl : ps.length = xs.length) : ∀ k, k ≤ xs.length →
    (idxL xs l k = [] → bsF xs ps n l k = (-1, 0)) ∧ (idxL xs l k ≠ [] → flG (costV xs ps n l) (idxL xs l k) = bsF xs ps n l k)
  | 0, _ => ⟨fun _ => rfl, fun h => absurd rfl h⟩
  | k + 1, hk => by
    obtain ⟨i1, i2⟩ := bs_idx xs ps n l hl k (by omega)
    have hx : xs[k]? = some xs[k] := List.getElem?_eq_getElem (by omega)
    have hp : ps[k]? = some ps[k] := List.getElem?_eq_getElem (by omega)
    have hc : costV xs ps n l (k : Int) = ps[k] * manyV xs[k] n l := by simp only [costV, Int.toNat_natCast, hx, hp]
    have e1 : idxL xs l (k + 1) = if xs[k].ink < l then idxL xs l k else idxL xs l k ++ [(k : Int)] := by rw [idxL, hx]
    have e2 : bsF xs ps n l (k + 1) = if xs[k].ink < l then bsF xs ps n l k else if (bsF xs ps n l k).1 < 0 ∨ ps[k] * manyV xs[k] n l < (bsF xs ps n l k).2 then ((k : Int), ps[k] * manyV xs[k] n l) else bsF xs ps n l k := by rw [bsF, hx, hp]
    rw [e1, e2]
    by_cases hi : xs[k].ink < l
    · rw [if_pos hi, if_pos hi]; exact ⟨i1, i2⟩
    · rw [if_neg hi, if_neg hi]
      refine ⟨fun h => by simp at h, fun _ => ?_⟩
      by_cases he : idxL xs l k = []
      · rw [i1 he, he, if_pos (.inl (by decide)), List.nil_append, flG, hc]; rfl
      · have hnn := flG_nn (costV xs ps n l) he (fun y hy => by obtain ⟨i, rfl, _⟩ := idxL_in xs l k y hy; omega)
        rw [i2 he] at hnn
        rw [flG_snoc _ he, i2 he, stepG, hc]
        by_cases hq : ps[k] * manyV xs[k] n l < (bsF xs ps n l k).2
        · rw [if_pos hq, if_pos (.inr hq)]
        · rw [if_neg hq, if_neg (fun h => h.elim (by omega) hq)]
/-- What the closure has captured, and what it reads. -/
structure CapB (e : Addr) (xs : List RibbonD) (ps : List Int) (sn l : Int) (A B : Option Addr) (n c m d N : Nat) (W : World) : Prop where
  b0 : W.cell? ⟨N, 0, none⟩ = some (.slice A n c)
  b1 : W.cell? ⟨N + 1, 0, none⟩ = some (.slice B m d)
  b2 : W.cell? ⟨N + 2, 0, none⟩ = some (.int .i64 sn)
  b3 : W.cell? ⟨N + 3, 0, none⟩ = some (.int .i64 l)
  hA : Ribbons W A n xs
  hB : Ints W B m ps
  hE : ErrC e W
theorem CapB.step {e : Addr} {xs : List RibbonD} {ps : List Int} {sn l : Int} {A B : Option Addr} {n c m d N : Nat} {W W' : World} (h : CapB e xs ps sn l A B n c m d N W) (hb : Below W.heap.size W W') : CapB e xs ps sn l A B n c m d N W' :=
  ⟨cell_step h.b0 hb, cell_step h.b1 hb, cell_step h.b2 hb, cell_step h.b3 hb, h.hA.below hb, h.hB.below hb, h.hE.step hb⟩
set_option maxRecDepth 100000 in
set_option maxHeartbeats 2400000 in
theorem cost14 (e : Addr) (xs : List RibbonD) (ps : List Int) (sn l : Int) (A B : Option Addr) (n c m d N : Nat) (hok : xs.all rbB = true) (hpk : ps.all priB = true) (hmn : m = n) (hs0 : 0 ≤ sn) (hs1 : sn ≤ 100000) (hl0 : 1 ≤ l) (hn : n ≤ 20)
    (x : Int) (hx : ∃ i : Nat, x = (i : Int) ∧ i < n ∧ ∃ r, xs[i]? = some r ∧ l ≤ r.ink) (w : World) (h : CapB e xs ps sn l A B n c m d N w) :
    Calls Tryd.prog 38 #[.int .i64 x, .pointer (some ⟨N + 1, 0, none⟩), .pointer (some ⟨N, 0, none⟩), .pointer (some ⟨N + 2, 0, none⟩), .pointer (some ⟨N + 3, 0, none⟩)] w fun e' w' => e' = .returned (.int .i64 (costV xs ps sn l x)) ∧ Below w.heap.size w w' := by
  obtain ⟨i, rfl, hi, r, hr, hli⟩ := hx
  obtain ⟨h0, h1, h2, h3, hA, hB, hE⟩ := h
  obtain ⟨ba, oa, x, rfl, hba, hx, c0, c1, c2⟩ := ribbon_at hA hi
  obtain ⟨bb, ob, p, rfl, hbb, hp, d0⟩ := int_at hB (show i < m by omega)
  obtain rfl : x = r := by have := hx.out; rw [hr] at this; exact (Option.some.inj this).symm
  have hrx : rbB x = true := List.all_eq_true.1 hok x (List.mem_of_getElem? hr)
  have hpx : priB p = true := List.all_eq_true.1 hpk p (List.mem_of_getElem? hp.out)
  obtain ⟨p0, p1⟩ := price_range hrx hpx hs0 hs1 hli
  have hcv : costV xs ps sn l (i : Int) = p * manyV x sn l := by simp only [costV, Int.toNat_natCast, hr, hp.out]
  have hnd := Lib.hid (fun W hE => need14i e x hrx sn l hs0 hs1 hl0 hli rfl W hE)
  rw [hcv]
  generalize manyV x sn l = V at *
  have hw1 : IntKind.i64.wrap (p * V) = p * V := IntWalk.i64_in _ (by omega)
  have i0 : (0 : Int) ≤ (i : Int) := Int.natCast_nonneg _
  have i1 : (i : Int) < (n : Int) := by omega
  have i2 : (i : Int) < (m : Int) := by omega
  obtain ⟨S, I, K⟩ := x
  simp only at *
  clear hA hB hx hp hr hli hrx hpx p0 p1 hcv hok hpk
  unfold ErrC at hE
  go_enter Tryd.func38, Tryd.ntmps38
  go_wp2_with fail
  refine wp_region_held_drew (S := fun w' => Below w.heap.size w w' ∧ w'.cell? ⟨N + 1, 0, none⟩ = some (.slice (some ⟨bb, ob, none⟩) m d) ∧ w'.cell? ⟨N, 0, none⟩ = some (.slice (some ⟨ba, oa, none⟩) n c) ∧ w'.cell? ⟨N + 2, 0, none⟩ = some (.int .i64 sn) ∧ w'.cell? ⟨N + 3, 0, none⟩ = some (.int .i64 l) ∧ w'.cell? ⟨ba, oa + i * 3, none⟩ = some (.int .i64 S) ∧ w'.cell? ⟨ba, oa + i * 3 + 1, none⟩ = some (.int .i64 I) ∧ w'.cell? ⟨ba, oa + i * 3 + 2, none⟩ = some (.int .i64 K) ∧ w'.cell? ⟨bb, ob + i, none⟩ = some (.int .i64 p) ∧ w'.cell? ⟨0, 0, none⟩ = some (.iface 105 (.pointer (some e)))) (by kernel_rfl) ?_ (fun hHeld => ?_)
  · exact ⟨(Below.refl _ _).drew, cell_step h1 ((Below.refl _ _).drew), cell_step h0 ((Below.refl _ _).drew), cell_step h2 ((Below.refl _ _).drew), cell_step h3 ((Below.refl _ _).drew), cell_step c0 ((Below.refl _ _).drew), cell_step c1 ((Below.refl _ _).drew), cell_step c2 ((Below.refl _ _).drew), cell_step d0 ((Below.refl _ _).drew), cell_step hE ((Below.refl _ _).drew)⟩
  refine wpAnyH_take (i := 0) (v := ?vcU1_0) rfl (by kernel_rfl) (by kernel_rfl) (by kernel_rfl) (fun _ _ _ h => h) (Or.inl ⟨rfl, ?ycU1_0⟩) (by assumption) ?_
  case ycU1_0 => (intro w hSw; (try dsimp only at hSw); go_simp; first | done | with_reducible rfl)
  simp only [List.getElem_toArray, List.getElem_cons_succ, List.getElem_cons_zero, Act.put, List.setIfInBounds_toArray, List.set_cons_zero, List.set_cons_succ]
  refine wpAnyH_take (i := 1) (v := ?vcU1_1) rfl (by kernel_rfl) (by kernel_rfl) (by kernel_rfl) (fun _ _ _ h => h) (Or.inl ⟨rfl, ?ycU1_1⟩) (by assumption) ?_
  case ycU1_1 => (intro w hSw; (try dsimp only at hSw); go_simp; first | done | with_reducible rfl)
  simp only [List.getElem_toArray, List.getElem_cons_succ, List.getElem_cons_zero, Act.put, List.setIfInBounds_toArray, List.set_cons_zero, List.set_cons_succ]
  refine wpAnyH_take (i := 2) (v := ?vcU1_2) rfl (by kernel_rfl) (by kernel_rfl) (by kernel_rfl) (fun _ _ _ h => h) (Or.inl ⟨rfl, ?ycU1_2⟩) (by assumption) ?_
  case ycU1_2 => (intro w hSw; (try dsimp only at hSw); go_simp; first | done | with_reducible rfl)
  simp only [List.getElem_toArray, List.getElem_cons_succ, List.getElem_cons_zero, Act.put, List.setIfInBounds_toArray, List.set_cons_zero, List.set_cons_succ]
  refine wpAnyH_take (i := 3) (v := ?vcU1_3) rfl (by kernel_rfl) (by kernel_rfl) (by kernel_rfl) (fun _ _ _ h => h) (Or.inl ⟨rfl, ?ycU1_3⟩) (by assumption) ?_
  case ycU1_3 => (intro w hSw; (try dsimp only at hSw); go_simp; first | done | with_reducible rfl)
  simp only [List.getElem_toArray, List.getElem_cons_succ, List.getElem_cons_zero, Act.put, List.setIfInBounds_toArray, List.set_cons_zero, List.set_cons_succ]
  refine wpAnyH_take (i := 4) (v := ?vcU1_4) rfl (by kernel_rfl) (by kernel_rfl) (by kernel_rfl) (fun _ _ _ h => h) (Or.inl ⟨rfl, ?ycU1_4⟩) (by assumption) ?_
  case ycU1_4 => (intro w hSw; (try dsimp only at hSw); go_simp; first | done | with_reducible rfl)
  simp only [List.getElem_toArray, List.getElem_cons_succ, List.getElem_cons_zero, Act.put, List.setIfInBounds_toArray, List.set_cons_zero, List.set_cons_succ]
  refine wpAnyH_take (i := 5) (v := ?vcU1_5) rfl (by kernel_rfl) (by kernel_rfl) (by kernel_rfl) (fun _ _ _ h => h) (Or.inl ⟨rfl, ?ycU1_5⟩) (by assumption) ?_
  case ycU1_5 => (intro w hSw; (try dsimp only at hSw); go_simp; first | done | with_reducible rfl)
  simp only [List.getElem_toArray, List.getElem_cons_succ, List.getElem_cons_zero, Act.put, List.setIfInBounds_toArray, List.set_cons_zero, List.set_cons_succ]
  refine wpAnyH_take (i := 6) (v := ?vcU1_6) rfl (by kernel_rfl) (by kernel_rfl) (by kernel_rfl) (fun _ _ _ h => h) (Or.inl ⟨rfl, ?ycU1_6⟩) (by assumption) ?_
  case ycU1_6 => (intro w hSw; (try dsimp only at hSw); go_simp; first | done | with_reducible rfl)
  simp only [List.getElem_toArray, List.getElem_cons_succ, List.getElem_cons_zero, Act.put, List.setIfInBounds_toArray, List.set_cons_zero, List.set_cons_succ]
  refine wpAnyH_take (i := 7) (v := ?vcU1_7) rfl (by kernel_rfl) (by kernel_rfl) (by kernel_rfl) (fun _ _ _ h => h) (Or.inl ⟨rfl, ?ycU1_7⟩) (by assumption) ?_
  case ycU1_7 => (intro w hSw; (try dsimp only at hSw); go_simp; first | done | with_reducible rfl)
  simp only [List.getElem_toArray, List.getElem_cons_succ, List.getElem_cons_zero, Act.put, List.setIfInBounds_toArray, List.set_cons_zero, List.set_cons_succ]
  refine wpAnyH_take (i := 8) (v := ?vcU1_8) rfl (by kernel_rfl) (by kernel_rfl) (by kernel_rfl) (fun _ _ _ h => h) (Or.inl ⟨rfl, ?ycU1_8⟩) (by assumption) ?_
  case ycU1_8 => (intro w hSw; (try dsimp only at hSw); go_simp; first | done | with_reducible rfl)
  simp only [List.getElem_toArray, List.getElem_cons_succ, List.getElem_cons_zero, Act.put, List.setIfInBounds_toArray, List.set_cons_zero, List.set_cons_succ]
  refine wpAnyH_take (i := 9) (v := ?vcU1_9) rfl (by kernel_rfl) (by kernel_rfl) (by kernel_rfl) (fun _ _ _ h => h) (Or.inl ⟨rfl, ?ycU1_9⟩) (by assumption) ?_
  case ycU1_9 => (intro w hSw; (try dsimp only at hSw); go_simp; first | done | with_reducible rfl)
  simp only [List.getElem_toArray, List.getElem_cons_succ, List.getElem_cons_zero, Act.put, List.setIfInBounds_toArray, List.set_cons_zero, List.set_cons_succ]
  refine wpAnyH_ready (rs := [10]) (by kernel_rfl) (by simp) ?_
  refine AllReadyH.cons rfl (fun K hK => ?_) AllReadyH.nil
  go_simp
  refine (hnd.out _ hHeld.2.2.2.2.2.2.2.2.2).mono ?_
  rintro e u1 ⟨rfl, hv1⟩
  go_wp2_with fail
  refine hK.out _ _ ?_ (fun hHeld => ?_)
  · exact ⟨hHeld.1.step hv1, cell_step hHeld.2.1 hv1, cell_step hHeld.2.2.1 hv1, cell_step hHeld.2.2.2.1 hv1, cell_step hHeld.2.2.2.2.1 hv1, cell_step hHeld.2.2.2.2.2.1 hv1, cell_step hHeld.2.2.2.2.2.2.1 hv1, cell_step hHeld.2.2.2.2.2.2.2.1 hv1, cell_step hHeld.2.2.2.2.2.2.2.2.1 hv1, cell_step hHeld.2.2.2.2.2.2.2.2.2 hv1⟩
  clear hK K
  try simp only [List.getElem_toArray, List.getElem_cons_succ, List.getElem_cons_zero, Act.put, List.setIfInBounds_toArray, List.set_cons_zero, List.set_cons_succ]
  refine wpAnyH_take (i := 11) (v := ?vcU1_11) rfl (by kernel_rfl) (by kernel_rfl) (by kernel_rfl) (fun _ _ _ h => h) (Or.inl ⟨rfl, ?ycU1_11⟩) (by assumption) ?_
  case ycU1_11 => (intro w hSw; (try dsimp only at hSw); go_simp; first | done | with_reducible rfl)
  simp only [List.getElem_toArray, List.getElem_cons_succ, List.getElem_cons_zero, Act.put, List.setIfInBounds_toArray, List.set_cons_zero, List.set_cons_succ]
  refine wpAnyH_take (i := 12) (v := ?vcU1_12) rfl (by kernel_rfl) (by kernel_rfl) (by kernel_rfl) (fun _ _ _ h => h) (Or.inl ⟨rfl, ?ycU1_12⟩) (by assumption) ?_
  case ycU1_12 => (intro w hSw; (try dsimp only at hSw); go_simp; first | done | with_reducible rfl)
  simp only [List.getElem_toArray, List.getElem_cons_succ, List.getElem_cons_zero, Act.put, List.setIfInBounds_toArray, List.set_cons_zero, List.set_cons_succ]
  refine wpAnyH_done (by kernel_rfl) ?_ _
  go_wp2
  go_ret
  exact ⟨rfl, hHeld.1⟩
theorem tail14 {w : World} {A : Option Addr} {n : Nat} {ps : List Int} (h : Ints w A n ps) (c : Nat) (hn : 1 ≤ n) (hc : n ≤ c) : Ints w (if c = 1 then A else A.map (·.add 1)) (n - 1) (ps.drop 1) := by
  refine ⟨by simp [h.1], fun hp => ?_⟩
  obtain ⟨b, off, rfl, hb, hcell⟩ := h.2 (by omega)
  rw [if_neg (by omega)]
  refine ⟨b, off + 1, rfl, hb, fun i x hx j u hu => ?_⟩
  rw [List.getElem?_drop] at hx
  have := hcell (1 + i) x hx j u hu
  rw [← this]
  congr 2
  omega
set_option maxRecDepth 100000 in
set_option maxHeartbeats 2400000 in
theorem fl14i (e : Addr) (xs : List RibbonD) (ps : List Int) (sn l : Int) (AA BB : Option Addr) (na ca mb db N : Nat) (hcl0 : ∀ x : Int, (∃ i : Nat, x = (i : Int) ∧ i < na ∧ ∃ r, xs[i]? = some r ∧ l ≤ r.ink) → ∀ W, CapB e xs ps sn l AA BB na ca mb db N W → Calls Tryd.prog 38 #[.int .i64 x, .pointer (some ⟨N + 1, 0, none⟩), .pointer (some ⟨N, 0, none⟩), .pointer (some ⟨N + 2, 0, none⟩), .pointer (some ⟨N + 3, 0, none⟩)] W fun e' w' => e' = .returned (.int .i64 (costV xs ps sn l x)) ∧ Below W.heap.size W w') (A : Option Addr) (n c : Nat) (L : List Int) (w : World) (hL : Ints w A n L) (hn1 : 1 ≤ n) (hn : n ≤ 1000) (hnc : n ≤ c) (hin : ∀ x ∈ L, ∃ i : Nat, x = (i : Int) ∧ i < na ∧ ∃ r, xs[i]? = some r ∧ l ≤ r.ink) (h3 : CapB e xs ps sn l AA BB na ca mb db N w) :
    Calls Tryd.prog 39 #[.slice A n c, .func (.func 38) #[] #[.pointer (some ⟨N + 1, 0, none⟩), .pointer (some ⟨N, 0, none⟩), .pointer (some ⟨N + 2, 0, none⟩), .pointer (some ⟨N + 3, 0, none⟩)]] w fun e w' => e = .returned (.tuple #[.int .i64 (flG (costV xs ps sn l) L).1, .int .i64 (flG (costV xs ps sn l) L).2]) ∧ Below w.heap.size w w' := by
  have hcl := Lib.hid hcl0
  have hc3 := Lib.hid (fun (W : World) (hb : Below w.heap.size w W) => h3.step hb)
  clear hcl0
  generalize costV xs ps sn l = f at *
  have hT := Lib.hid (tail14 hL c hn1 hnc)
  obtain ⟨b, off, x0, rfl, hb, hx, c0⟩ := int_at hL (show 0 < n by omega)
  rw [Nat.add_zero] at c0
  have hx0 := hin x0 (List.mem_of_getElem? hx.out)
  obtain ⟨R, hR⟩ : ∃ R, L = x0 :: R := by
    have hh := hx.out
    cases L with
    | nil => simp at hh
    | cons y R => simp at hh; exact ⟨R, by rw [hh]⟩
  have hRd : L.drop 1 = R := by rw [hR]; rfl
  have hRn : R.length = n - 1 := by have := hL.1; rw [hR] at this; simp at this; omega
  have hRin := Lib.hid (fun y (hy : y ∈ R) => hin y (by rw [hR]; exact List.mem_cons_of_mem _ hy))
  have hfl := Lib.hid (show flG f L = R.foldl (stepG f) (x0, f x0) by rw [hR, flG])
  rw [hRd] at hT
  have k1 : (1 : Int) ≤ (n : Int) := by omega
  have k2 : (1 : Int) ≤ (c : Int) := by omega
  have k3 : (0 : Int) < (n : Int) := by omega
  have k4 : 0 < n := by omega
  have k5 : 1 ≤ c := by omega
  have k6 : (n : Int) ≤ (c : Int) := by omega
  clear hin hL hx h3 hR hRd
  generalize flG f L = F at *
  have hP0 := Lib.hid (show (R.take 0).foldl (stepG f) (x0, f x0) = (x0, f x0) from rfl)
  have hPn := Lib.hid (fun (k : Nat) (y : Int) (hy : R[k]? = some y) => show (R.take (k + 1)).foldl (stepG f) (x0, f x0) = stepG f ((R.take k).foldl (stepG f) (x0, f x0)) y by rw [take8 hy, List.foldl_append]; rfl)
  have hPe := Lib.hid (show (R.take (n - 1)).foldl (stepG f) (x0, f x0) = F by rw [List.take_of_length_le (by omega), hfl.out])
  clear hfl
  by_cases hc1 : c = 1
  · have hn01 : n - 1 = 0 := by omega
    rw [if_pos hc1] at hT
    subst hc1
    obtain rfl : n = 1 := by omega
    go_enter Tryd.func39, Tryd.ntmps39
    go_wp2_with fail
    refine wp_region_held_drew (S := fun w' => Below w.heap.size w w' ∧ w'.cell? ⟨b, off, none⟩ = some (.int .i64 x0)) (by kernel_rfl) ?_ (fun hHeld => ?_)
    · exact ⟨(Below.refl _ _).drew, cell_step c0 ((Below.refl _ _).drew)⟩
    refine wpAnyH_take (i := 0) (v := ?vaU2_0) rfl (by kernel_rfl) (by kernel_rfl) (by kernel_rfl) (fun _ _ _ h => h) (Or.inl ⟨rfl, ?yaU2_0⟩) (by assumption) ?_
    case yaU2_0 => (intro w hSw; (try dsimp only at hSw); go_simp; first | done | with_reducible rfl)
    simp only [List.getElem_toArray, List.getElem_cons_succ, List.getElem_cons_zero, Act.put, List.setIfInBounds_toArray, List.set_cons_zero, List.set_cons_succ]
    refine wpAnyH_take (i := 1) (v := ?vaU2_1) rfl (by kernel_rfl) (by kernel_rfl) (by kernel_rfl) (fun _ _ _ h => h) (Or.inl ⟨rfl, ?yaU2_1⟩) (by assumption) ?_
    case yaU2_1 => (intro w hSw; (try dsimp only at hSw); go_simp; first | done | with_reducible rfl)
    simp only [List.getElem_toArray, List.getElem_cons_succ, List.getElem_cons_zero, Act.put, List.setIfInBounds_toArray, List.set_cons_zero, List.set_cons_succ]
    refine wpAnyH_take (i := 2) (v := ?vaU2_2) rfl (by kernel_rfl) (by kernel_rfl) (by kernel_rfl) (fun _ _ _ h => h) (Or.inl ⟨rfl, ?yaU2_2⟩) (by assumption) ?_
    case yaU2_2 => (intro w hSw; (try dsimp only at hSw); go_simp; first | done | with_reducible rfl)
    simp only [List.getElem_toArray, List.getElem_cons_succ, List.getElem_cons_zero, Act.put, List.setIfInBounds_toArray, List.set_cons_zero, List.set_cons_succ]
    refine wpAnyH_take (i := 3) (v := ?vaU2_3) rfl (by kernel_rfl) (by kernel_rfl) (by kernel_rfl) (fun _ _ _ h => h) (Or.inl ⟨rfl, ?yaU2_3⟩) (by assumption) ?_
    case yaU2_3 => (intro w hSw; (try dsimp only at hSw); go_simp; first | done | with_reducible rfl)
    simp only [List.getElem_toArray, List.getElem_cons_succ, List.getElem_cons_zero, Act.put, List.setIfInBounds_toArray, List.set_cons_zero, List.set_cons_succ]
    refine wpAnyH_take (i := 4) (v := ?vaU2_4) rfl (by kernel_rfl) (by kernel_rfl) (by kernel_rfl) (fun _ _ _ h => h) (Or.inl ⟨rfl, ?yaU2_4⟩) (by assumption) ?_
    case yaU2_4 => (intro w hSw; (try dsimp only at hSw); go_simp; first | done | with_reducible rfl)
    simp only [List.getElem_toArray, List.getElem_cons_succ, List.getElem_cons_zero, Act.put, List.setIfInBounds_toArray, List.set_cons_zero, List.set_cons_succ]
    refine wpAnyH_take (i := 5) (v := ?vaU2_5) rfl (by kernel_rfl) (by kernel_rfl) (by kernel_rfl) (fun _ _ _ h => h) (Or.inl ⟨rfl, ?yaU2_5⟩) (by assumption) ?_
    case yaU2_5 => (intro w hSw; (try dsimp only at hSw); go_simp; first | done | with_reducible rfl)
    simp only [List.getElem_toArray, List.getElem_cons_succ, List.getElem_cons_zero, Act.put, List.setIfInBounds_toArray, List.set_cons_zero, List.set_cons_succ]
    refine wpAnyH_take (i := 6) (v := ?vaU2_6) rfl (by kernel_rfl) (by kernel_rfl) (by kernel_rfl) (fun _ _ _ h => h) (Or.inl ⟨rfl, ?yaU2_6⟩) (by assumption) ?_
    case yaU2_6 => (intro w hSw; (try dsimp only at hSw); go_simp; first | done | with_reducible rfl)
    simp only [List.getElem_toArray, List.getElem_cons_succ, List.getElem_cons_zero, Act.put, List.setIfInBounds_toArray, List.set_cons_zero, List.set_cons_succ]
    refine wpAnyH_ready (rs := [7]) (by kernel_rfl) (by simp) ?_
    refine AllReadyH.cons rfl (fun K hK => ?_) AllReadyH.nil
    go_simp
    refine (hcl.out x0 hx0 _ (hc3.out _ hHeld.1)).mono ?_
    rintro e w5 ⟨rfl, hb5⟩
    go_wp2_with fail
    refine hK.out _ _ ?_ (fun hHeld => ?_)
    · exact ⟨hHeld.1.step hb5, cell_step hHeld.2 hb5⟩
    clear hK K
    try simp only [List.getElem_toArray, List.getElem_cons_succ, List.getElem_cons_zero, Act.put, List.setIfInBounds_toArray, List.set_cons_zero, List.set_cons_succ]
    refine wpAnyH_take (i := 8) (v := ?vaU2_8) rfl (by kernel_rfl) (by kernel_rfl) (by kernel_rfl) (fun _ _ _ h => h) (Or.inl ⟨rfl, ?yaU2_8⟩) (by assumption) ?_
    case yaU2_8 => (intro w hSw; (try dsimp only at hSw); go_simp; first | done | with_reducible rfl)
    simp only [List.getElem_toArray, List.getElem_cons_succ, List.getElem_cons_zero, Act.put, List.setIfInBounds_toArray, List.set_cons_zero, List.set_cons_succ]
    refine wpAnyH_take (i := 9) (v := ?vaU2_9) rfl (by kernel_rfl) (by kernel_rfl) (by kernel_rfl) (fun _ _ _ h => h) (Or.inl ⟨rfl, ?yaU2_9⟩) (by assumption) ?_
    case yaU2_9 => (intro w hSw; (try dsimp only at hSw); go_simp; first | done | with_reducible rfl)
    simp only [List.getElem_toArray, List.getElem_cons_succ, List.getElem_cons_zero, Act.put, List.setIfInBounds_toArray, List.set_cons_zero, List.set_cons_succ]
    refine wpAnyH_done (by kernel_rfl) ?_ _
    obtain ⟨hbw0, _⟩ := hHeld
    clear hb5
    go_wp2
    have hres : Hid (F = (x0, f x0)) := Lib.hid (hPe.out.symm.trans hP0.out)
    go_loopw [6, 7, 22] (fun u l0 i wr => i = .int .i64 0 ∧ u = .int .i64 x0 ∧ l0 = .int .i64 (f x0) ∧ Below w.heap.size w wr) (fun _ _ _ _ => 0)
    case atStart => exact ⟨rfl, rfl, rfl, hbw0⟩
    case round =>
      obtain ⟨rfl, rfl, rfl, hbw⟩ := hrel
      go_wp2
      go_ret2
      exact ⟨by rw [hres.out]; rfl, hbw⟩
  · rw [if_neg hc1] at hT
    simp only [Option.map_some] at hT
    go_enter Tryd.func39, Tryd.ntmps39
    go_wp2_with fail
    refine wp_region_held_drew (S := fun w' => Below w.heap.size w w' ∧ w'.cell? ⟨b, off, none⟩ = some (.int .i64 x0)) (by kernel_rfl) ?_ (fun hHeld => ?_)
    · exact ⟨(Below.refl _ _).drew, cell_step c0 ((Below.refl _ _).drew)⟩
    refine wpAnyH_take (i := 0) (v := ?vbU3_0) rfl (by kernel_rfl) (by kernel_rfl) (by kernel_rfl) (fun _ _ _ h => h) (Or.inl ⟨rfl, ?ybU3_0⟩) (by assumption) ?_
    case ybU3_0 => (intro w hSw; (try dsimp only at hSw); go_simp; first | done | with_reducible rfl)
    simp only [List.getElem_toArray, List.getElem_cons_succ, List.getElem_cons_zero, Act.put, List.setIfInBounds_toArray, List.set_cons_zero, List.set_cons_succ]
    refine wpAnyH_take (i := 1) (v := ?vbU3_1) rfl (by kernel_rfl) (by kernel_rfl) (by kernel_rfl) (fun _ _ _ h => h) (Or.inl ⟨rfl, ?ybU3_1⟩) (by assumption) ?_
    case ybU3_1 => (intro w hSw; (try dsimp only at hSw); go_simp; first | done | with_reducible rfl)
    simp only [List.getElem_toArray, List.getElem_cons_succ, List.getElem_cons_zero, Act.put, List.setIfInBounds_toArray, List.set_cons_zero, List.set_cons_succ]
    refine wpAnyH_take (i := 2) (v := ?vbU3_2) rfl (by kernel_rfl) (by kernel_rfl) (by kernel_rfl) (fun _ _ _ h => h) (Or.inl ⟨rfl, ?ybU3_2⟩) (by assumption) ?_
    case ybU3_2 => (intro w hSw; (try dsimp only at hSw); go_simp; first | done | with_reducible rfl)
    simp only [List.getElem_toArray, List.getElem_cons_succ, List.getElem_cons_zero, Act.put, List.setIfInBounds_toArray, List.set_cons_zero, List.set_cons_succ]
    refine wpAnyH_take (i := 3) (v := ?vbU3_3) rfl (by kernel_rfl) (by kernel_rfl) (by kernel_rfl) (fun _ _ _ h => h) (Or.inl ⟨rfl, ?ybU3_3⟩) (by assumption) ?_
    case ybU3_3 => (intro w hSw; (try dsimp only at hSw); go_simp; first | done | with_reducible rfl)
    simp only [List.getElem_toArray, List.getElem_cons_succ, List.getElem_cons_zero, Act.put, List.setIfInBounds_toArray, List.set_cons_zero, List.set_cons_succ]
    refine wpAnyH_take (i := 4) (v := ?vbU3_4) rfl (by kernel_rfl) (by kernel_rfl) (by kernel_rfl) (fun _ _ _ h => h) (Or.inl ⟨rfl, ?ybU3_4⟩) (by assumption) ?_
    case ybU3_4 => (intro w hSw; (try dsimp only at hSw); go_simp; first | done | with_reducible rfl)
    simp only [List.getElem_toArray, List.getElem_cons_succ, List.getElem_cons_zero, Act.put, List.setIfInBounds_toArray, List.set_cons_zero, List.set_cons_succ]
    refine wpAnyH_take (i := 5) (v := ?vbU3_5) rfl (by kernel_rfl) (by kernel_rfl) (by kernel_rfl) (fun _ _ _ h => h) (Or.inl ⟨rfl, ?ybU3_5⟩) (by assumption) ?_
    case ybU3_5 => (intro w hSw; (try dsimp only at hSw); go_simp; first | done | with_reducible rfl)
    simp only [List.getElem_toArray, List.getElem_cons_succ, List.getElem_cons_zero, Act.put, List.setIfInBounds_toArray, List.set_cons_zero, List.set_cons_succ]
    refine wpAnyH_take (i := 6) (v := ?vbU3_6) rfl (by kernel_rfl) (by kernel_rfl) (by kernel_rfl) (fun _ _ _ h => h) (Or.inl ⟨rfl, ?ybU3_6⟩) (by assumption) ?_
    case ybU3_6 => (intro w hSw; (try dsimp only at hSw); go_simp; first | done | with_reducible rfl)
    simp only [List.getElem_toArray, List.getElem_cons_succ, List.getElem_cons_zero, Act.put, List.setIfInBounds_toArray, List.set_cons_zero, List.set_cons_succ]
    refine wpAnyH_ready (rs := [7]) (by kernel_rfl) (by simp) ?_
    refine AllReadyH.cons rfl (fun K hK => ?_) AllReadyH.nil
    go_simp
    refine (hcl.out x0 hx0 _ (hc3.out _ hHeld.1)).mono ?_
    rintro e w5 ⟨rfl, hb5⟩
    go_wp2_with fail
    refine hK.out _ _ ?_ (fun hHeld => ?_)
    · exact ⟨hHeld.1.step hb5, cell_step hHeld.2 hb5⟩
    clear hK K
    try simp only [List.getElem_toArray, List.getElem_cons_succ, List.getElem_cons_zero, Act.put, List.setIfInBounds_toArray, List.set_cons_zero, List.set_cons_succ]
    refine wpAnyH_take (i := 8) (v := ?vbU3_8) rfl (by kernel_rfl) (by kernel_rfl) (by kernel_rfl) (fun _ _ _ h => h) (Or.inl ⟨rfl, ?ybU3_8⟩) (by assumption) ?_
    case ybU3_8 => (intro w hSw; (try dsimp only at hSw); go_simp; first | done | with_reducible rfl)
    simp only [List.getElem_toArray, List.getElem_cons_succ, List.getElem_cons_zero, Act.put, List.setIfInBounds_toArray, List.set_cons_zero, List.set_cons_succ]
    refine wpAnyH_take (i := 9) (v := ?vbU3_9) rfl (by kernel_rfl) (by kernel_rfl) (by kernel_rfl) (fun _ _ _ h => h) (Or.inl ⟨rfl, ?ybU3_9⟩) (by assumption) ?_
    case ybU3_9 => (intro w hSw; (try dsimp only at hSw); go_simp; first | done | with_reducible rfl)
    simp only [List.getElem_toArray, List.getElem_cons_succ, List.getElem_cons_zero, Act.put, List.setIfInBounds_toArray, List.set_cons_zero, List.set_cons_succ]
    refine wpAnyH_done (by kernel_rfl) ?_ _
    obtain ⟨hbw0, _⟩ := hHeld
    clear hb5
    go_wp2
    obtain ⟨A3, hA3⟩ : ∃ A3 : Option Addr, some ((⟨b, off, none⟩ : Addr).add 1) = A3 := ⟨_, rfl⟩
    rw [hA3] at hT
    have e3 : some (⟨b, off + 1, none⟩ : Addr) = A3 := hA3
    rw [e3]
    clear hA3 e3 c0
    generalize hm : n - 1 = m at *
    go_loopw [6, 7, 22] (fun u l0 i wr => ∃ k : Nat, k ≤ m ∧ i = .int .i64 (k : Int) ∧ u = .int .i64 ((R.take k).foldl (stepG f) (x0, f x0)).1 ∧ l0 = .int .i64 ((R.take k).foldl (stepG f) (x0, f x0)).2 ∧ Below w.heap.size w wr) (fun _ _ i _ => (m - intOf i).toNat)
    case atStart => exact ⟨0, by omega, rfl, by rw [hP0.out], by rw [hP0.out], hbw0⟩
    case round =>
      clear hbw0
      rename World => wr
      obtain ⟨k, hk, rfl, rfl, rfl, hbw⟩ := hrel
      by_cases hlt : k < m
      · obtain ⟨b', off', y, e, hb', hy, d0⟩ := int_at (hT.out.below hbw) hlt
        subst e
        have hnx := Lib.hid (hPn.out k y hy.out)
        have hyin := hRin.out y (List.mem_of_getElem? hy.out)
        have hcl1 := Lib.hid (hcl.out y hyin wr (hc3.out _ hbw))
        generalize (R.take k).foldl (stepG f) (x0, f x0) = P at *
        obtain ⟨p1, p2⟩ := P
        have hw1 : IntKind.i64.wrap ((k : Int) + 1) = ((k + 1 : Nat) : Int) := by rw [IntWalk.i64_in _ (by omega)]; omega
        have k0 : (0 : Int) ≤ (k : Int) := by omega
        have k1' : (k : Int) < (m : Int) := by omega
        by_cases hlp : f y < p2
        · have g4 : decide (f y < p2) = true := decide_eq_true hlp
          have hq : Hid ((R.take (k + 1)).foldl (stepG f) (x0, f x0) = (y, f y)) := Lib.hid (by rw [hnx.out, stepG, if_pos hlp])
          clear hnx
          generalize f y = Y at *
          go_wp2_with fail
          refine (hcl1.out).mono ?_
          rintro e w1 ⟨rfl, hb1⟩
          have hbn := Lib.hid (hbw.step hb1)
          clear hbw hb1 hcl1
          go_wp2
          go_roundw
          case rel => exact ⟨k + 1, by omega, by go_num, by rw [hq.out], by rw [hq.out], hbn.out⟩
          case measure => simp [intOf]; omega
        · have g4 : decide (f y < p2) = false := decide_eq_false hlp
          have hq : Hid ((R.take (k + 1)).foldl (stepG f) (x0, f x0) = (p1, p2)) := Lib.hid (by rw [hnx.out, stepG, if_neg hlp])
          clear hnx
          generalize f y = Y at *
          go_wp2_with fail
          refine (hcl1.out).mono ?_
          rintro e w1 ⟨rfl, hb1⟩
          have hbn := Lib.hid (hbw.step hb1)
          clear hbw hb1 hcl1
          go_wp2
          go_roundw
          case rel => exact ⟨k + 1, by omega, by go_num, by rw [hq.out], by rw [hq.out], hbn.out⟩
          case measure => simp [intOf]; omega
      · obtain rfl : k = m := by omega
        rw [hPe.out]
        go_wp2
        go_ret2
        exact ⟨rfl, hbw⟩
end Go.Proofs.YtceedmejmmoepaaDoor
