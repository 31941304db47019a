/- Several texts, one behind the other. -/
import Derived.Test.YtijelimpkcnbjaaTm10
import Derived.Test.YtijelimpkcnbjaaCat8
import Derived.Test.YtijelimpkcnbjaaWm3
import Derived.Test.YtijelimpkcnbjaaTm5
import Derived.Test.YtijelimpkcnbjaaDrawn
/- Lists of stops: their order, and how a row of them lies in memory. -/
namespace Go.Proofs.Ytijelimpkcnbjaa
open Go.RowKit Go.ChangeShapes Go.WideShapes Go.Deep
set_option linter.unusedVariables false
set_option linter.unusedSimpArgs false

def nextS (a : Nat) : List Int → Nat
  | [] => a
  | x :: L => nextS (x.toNat + 1) L
theorem nextS_snoc (L : List Int) (c : Int) : ∀ a, nextS a (L ++ [c]) = c.toNat + 1 := by
  induction L with
  | nil => intro a; rfl
  | cons x L ih => intro a; exact ih _
def extS (a : Nat) (L : List Int) : List (List Int) := (List.range' (nextS a L) (31 - nextS a L)).map fun (c : Nat) => L ++ [(c : Int)]
theorem extS_cons (a c : Nat) (L : List Int) : extS a ((c : Int) :: L) = (extS (c + 1) L).map (fun t => (c : Int) :: t) := by
  rw [extS, extS, nextS, Int.toNat_natCast, List.map_map]
  rfl
theorem allL_snoc : ∀ m a, allL (m + 1) a = (allL m a).flatMap (extS a)
  | 0, a => by
    rw [allL]
    simp only [allL, List.flatMap_cons, List.flatMap_nil, List.append_nil, List.map_cons, List.map_nil]
    rw [extS, nextS, List.map_eq_flatMap]
    rfl
  | m + 1, a => by
    rw [allL]
    have ih := fun c : Nat => allL_snoc m (c + 1)
    simp only [ih]
    rw [allL, List.flatMap_assoc]
    refine congrArg (fun f => List.flatMap f (List.range' a (31 - a))) (funext fun c => ?_)
    rw [List.map_flatMap, List.flatMap_map]
    exact congrArg (fun f => List.flatMap f (allL m (c + 1))) (funext fun L => (extS_cons a c L).symm)
theorem allL_in : ∀ m a, a ≤ 31 → ∀ L ∈ allL m a, L.length = m ∧ nextS a L ≤ 31 ∧ a ≤ nextS a L ∧ ∀ x ∈ L, (a : Int) ≤ x ∧ x ≤ 30
  | 0, a, ha, L, h => by
    rw [allL, List.mem_singleton] at h
    subst h
    exact ⟨rfl, ha, Nat.le_refl _, fun x hx => by cases hx⟩
  | m + 1, a, ha, L, h => by
    rw [allL, List.mem_flatMap] at h
    obtain ⟨c, hc, h⟩ := h
    obtain ⟨t, ht, rfl⟩ := List.mem_map.1 h
    rw [List.mem_range'_1] at hc
    obtain ⟨h1, h2, h3, h4⟩ := allL_in m (c + 1) (by omega) t ht
    refine ⟨by rw [List.length_cons, h1], by rw [nextS, Int.toNat_natCast]; exact h2, by rw [nextS, Int.toNat_natCast]; omega, fun x hx => ?_⟩
    rcases List.mem_cons.1 hx with rfl | hx
    · omega
    · have := h4 x hx
      omega
theorem extS_len (L : List Int) : (extS 1 L).length ≤ 31 := by
  rw [extS, List.length_map, List.length_range']
  omega
theorem ext_flat_len : ∀ X : List (List Int), (X.flatMap (extS 1)).length ≤ 31 * X.length
  | [] => by simp
  | x :: X => by
    have h := ext_flat_len X
    have h1 := extS_len x
    rw [List.flatMap_cons, List.length_append, List.length_cons]
    omega
theorem allL_few {m : Nat} (h : m ≤ 2) : (allL m 1).length ≤ 961 := by
  match m, h with
  | 0, _ => simp [allL]
  | 1, _ => rw [allL_snoc]; have := ext_flat_len (allL 0 1); simp [allL] at this ⊢; omega
  | 2, _ =>
    have h1 := ext_flat_len (allL 0 1)
    have h2 := ext_flat_len (allL 1 1)
    have e1 : (allL 1 1).length ≤ 31 * (allL 0 1).length := by rw [allL_snoc 0 1]; exact h1
    have e2 : (allL 2 1).length ≤ 31 * (allL 1 1).length := by rw [allL_snoc 1 1]; exact h2
    have h0 : (allL 0 1).length = 1 := rfl
    omega
/-- The rows lie as they should. -/
def RowsOk (w : World) (base : Nat) (rs : List RowD) (xss : List (List Int)) : Prop :=
  rs.length = xss.length ∧ ∀ (i : Nat) (r : RowD) (xs : List Int), rs[i]? = some r → xss[i]? = some xs → OInts w base r.A r.n xs
theorem RowsOk.to {w w' : World} {base base' : Nat} {rs : List RowD} {xss : List (List Int)} (h : RowsOk w base rs xss) (hk : ∀ (A : Option Addr) (n : Nat) (xs : List Int), OInts w base A n xs → OInts w' base' A n xs) : RowsOk w' base' rs xss :=
  ⟨h.1, fun i r xs hr hx => hk _ _ _ (h.2 i r xs hr hx)⟩
theorem RowsOk.below {w w' : World} {base : Nat} {rs : List RowD} {xss : List (List Int)} (h : RowsOk w base rs xss) (hb : Below w.heap.size w w') : RowsOk w' base rs xss := h.to fun _ _ _ k => ORow.below k hb
theorem RowsOk.nil (w : World) (base : Nat) : RowsOk w base [] [] := ⟨rfl, fun i r xs hr _ => by simp at hr⟩
theorem RowsOk.snoc {w : World} {base : Nat} {rs : List RowD} {xss : List (List Int)} (h : RowsOk w base rs xss) {r : RowD} {xs : List Int} (hr : OInts w base r.A r.n xs) : RowsOk w base (rs ++ [r]) (xss ++ [xs]) := by
  refine ⟨by simp [h.1], fun i r' xs' h1 h2 => ?_⟩
  by_cases hi : i < rs.length
  · rw [List.getElem?_append_left hi] at h1
    rw [List.getElem?_append_left (by rw [← h.1]; exact hi)] at h2
    exact h.2 i r' xs' h1 h2
  · rw [List.getElem?_append_right (by omega)] at h1
    rw [List.getElem?_append_right (by rw [← h.1]; omega)] at h2
    have h3 := (List.getElem?_eq_some_iff.1 h1).1
    rw [List.length_singleton] at h3
    have h4 : i - rs.length = 0 := by omega
    rw [h4] at h1
    rw [← h.1, h4] at h2
    cases h1
    cases h2
    exact hr
theorem owns_blk {w w' : World} {base : Nat} {E : TypeId} {size n : Nat} {v : Value} {xs : List Value} (h : w.ownsRow base E size v n xs) (hb : Below w.heap.size w w') : w'.ownsRow base E size v n xs := by
  obtain ⟨h1, h2 | ⟨g', cap, cur, h3, h4, h5, h6⟩⟩ := h
  · exact ⟨h1, .inl h2⟩
  · exact ⟨h1, .inr ⟨g', cap, cur, h3, h4, (hb.block g' (own_lt h5)).trans h5, h6⟩⟩
theorem row_apart {w w' : World} {base b' n k : Nat} {v : Value} {xs : List Value} {A : Option Addr} {ys : List Int} (h : w.ownsRow base 26 1 v n xs) (h2 : OInts w b' A k ys) (hg : w.grownBy w' v.ownBlock) : OInts w' b' A k ys := by
  refine ORow.block h2 (fun p hp => hg.block _ (ORow.lt h2 p hp) (fun e => ?_))
  obtain ⟨_, ⟨rfl, _⟩ | ⟨g', cap, cur, rfl, h4, h5, _⟩⟩ := h
  · cases e
  · obtain ⟨_, ⟨rfl, _⟩ | ⟨g, m, f, rfl, h6, ⟨c, h7, _⟩, _⟩⟩ := h2
    · cases hp
    · cases hp
      have e1 : g = g' := Option.some.inj e
      rw [← e1, h7] at h5
      cases h5
theorem iss2s {w : World} {A B : Option Addr} {g a b a' b' : Nat} {xs ys : List Int} {T : TypeId} (hr : w.heap[g]? = some (.cells #[.slice A a a', .slice B b b'] T))
    (h1 : Ints w A a xs) (h2 : Ints w B b ys) (ha : a ≤ 1000) (hb : b ≤ 1000) : IntSS w (some ⟨g, 0, none⟩) 2 [xs, ys] := by
  have hlt : g < w.heap.size := (Array.getElem?_eq_some_iff.1 hr).1
  refine ⟨[⟨A, a, a'⟩, ⟨B, b, b'⟩], ⟨rfl, fun _ => ⟨g, 0, rfl, hlt, fun i x hx j u hu => ?_⟩⟩, rfl, fun i r xs hr hx => ?_⟩
  · match j, hu with
    | 0, hu =>
      simp only [RowD.cells, List.getElem?_cons_zero, Option.some.injEq] at hu
      subst hu
      match i, hx with
      | 0, hx => cases hx; exact cell_of_row w g _ _ T (0, 0) hr
      | 1, hx => cases hx; exact cell_of_row w g _ _ T (0, 0) hr
      | i + 2, hx => simp at hx
    | j + 1, hu => simp [RowD.cells] at hu
  · match i, hr, hx with
    | 0, hr, hx => cases hr; cases hx; exact ⟨h1, Nat.le_trans ha (by unfold maxLen; omega)⟩
    | 1, hr, hx => cases hr; cases hx; exact ⟨h2, Nat.le_trans hb (by unfold maxLen; omega)⟩
    | i + 2, hr, hx => simp at hr

end Go.Proofs.Ytijelimpkcnbjaa

/- The lists of stops, made by the program. -/
namespace Go.Proofs.Ytijelimpkcnbjaa
open Go.RowKit Go.ChangeShapes Go.WideShapes Go.Deep
set_option linter.unusedVariables false
set_option linter.unusedSimpArgs false

theorem one9s (A : Option Addr) (n c : Nat) : ∀ u ∈ [Value.slice A n c], u.oneCell' = true := by
  intro u hu
  simp only [List.mem_cons, List.not_mem_nil, or_false] at hu
  rcases hu with rfl; rfl
theorem owns_monoS {w : World} {base base' : Nat} {E : TypeId} {size n : Nat} {v : Value} {xs : List Value} (h : w.ownsRow base E size v n xs) (hb : base' ≤ base) : w.ownsRow base' E size v n xs := by
  obtain ⟨h1, h2 | ⟨g', cap, cur, h3, h4, h5⟩⟩ := h
  · exact ⟨h1, .inl h2⟩
  · exact ⟨h1, .inr ⟨g', cap, cur, h3, Nat.le_trans hb h4, h5⟩⟩
set_option maxRecDepth 100000 in
set_option maxHeartbeats 3200000 in
theorem slW11 (q0 : Nat) (hq0 : q0 ≤ 2) (w : World) :
    Calls Try.prog 20 #[.int .i64 (q0 : Int)] w fun e w' => ∃ A c rs, e = .returned (.slice A rs.length c) ∧ ORow 26 1 RowD.cells w' w.heap.size A rs.length rs ∧ RowsOk w' w.heap.size rs (allL q0 1) ∧ Below w.heap.size w w' := by
  obtain ⟨i0, hi, hz0, hz1, hz2⟩ := info_parts Try.infoIntS
  go_enter Try.func20, Try.ntmps20
  go_wp2
  go_loopw [3, 4, 6, 7, 8, 11] (fun lv _ _ _ _ i wr => ∃ (q : Nat) (rs : List RowD), q ≤ q0 ∧ i = .int .i64 (q : Int) ∧ wr.ownsRow w.heap.size 26 1 lv rs.length (rs.flatMap RowD.cells) ∧ RowsOk wr w.heap.size rs (allL q 1) ∧ Below w.heap.size w wr) (fun _ _ _ _ _ i _ => q0 - (intOf i).toNat)
  case atStart =>
    refine ⟨0, [⟨none, 0, 0⟩], by omega, rfl, ⟨rfl, .inr ⟨w.heap.size, 1, #[.slice none 0 0], rfl, Nat.le_refl _, heap_alloc_new _ _, Nat.le_refl _, by unfold maxLen; omega, rfl, rfl⟩⟩, ?_, below_a1 _ _⟩
    exact (RowsOk.nil _ _).snoc (r := ⟨none, 0, 0⟩) (xs := []) ORow.nil_
  case round =>
    rename World => wr
    obtain ⟨q, rs, hq, rfl, hrow, hok, hbw⟩ := hrel
    obtain ⟨A, c, rfl, hO⟩ := ORow.of_owns (cells := RowD.cells) (fun _ => rfl) hrow
    have hsz := hbw.size
    clear hrow
    by_cases hlt : q < q0
    · have hq1 : q ≤ 1 := by omega
      have hk1 : (q : Int) < (q0 : Int) := by omega
      have hfew := allL_few (m := q) (by omega)
      have hrl := hok.1
      have hwx : IntKind.i64.wrap ((q : Int) + 1) = ((q + 1 : Nat) : Int) := by rw [IntWalk.i64_in _ (by omega)]; omega
      replace hok := Lib.hid hok
      replace hO := Lib.hid hO
      go_wp2
      go_loopw [4, 6, 7, 8, 15] (fun v _ _ _ i wi => ∃ (k : Nat) (rs2 : List RowD), k ≤ rs.length ∧ i = .int .i64 (k : Int) ∧ wi.ownsRow wr.heap.size 26 1 v rs2.length (rs2.flatMap RowD.cells) ∧ RowsOk wi wr.heap.size rs2 (((allL q 1).take k).flatMap (extS 1)) ∧ Below wr.heap.size wr wi) (fun _ _ _ _ i _ => rs.length - (intOf i).toNat)
      case atStart => exact ⟨0, [], by omega, rfl, owns_nil8 _ _ _, RowsOk.nil _ _, Below.refl _ _⟩
      case round =>
        rename World => wi
        obtain ⟨k, rs2, hk, rfl, hrow2, hok2, hbw2⟩ := hrel
        have hsz2 := hbw2.size
        replace hok2 := Lib.hid hok2
        replace hrow2 := Lib.hid hrow2
        by_cases hlk : k < rs.length
        · obtain ⟨b, off, ⟨xA, xn, xc⟩, rfl, hb, hx, hcell⟩ := (hO.out.srow.below hbw2).at_ hlk
          have c0 := hcell 0 _ rfl
          rw [Nat.mul_one, Nat.add_zero] at c0
          have hlL : k < (allL q 1).length := by omega
          obtain ⟨L, hL⟩ : ∃ L, (allL q 1)[k]? = some L := ⟨_, List.getElem?_eq_getElem hlL⟩
          have hOI := hok.out.2 k _ _ hx hL
          obtain ⟨f1, f2, f3, f4⟩ := allL_in q 1 (by omega) L (List.mem_of_getElem? hL)
          have hxn : xn = q := by have := hOI.1; simp only at this; omega
          have hI := Lib.hid (ORow.srow hOI)
          have hIl : Hid (L.length = xn) := Lib.hid hOI.1
          have hxL := Lib.hid hL
          have hk0 : (0 : Int) ≤ (k : Int) := Int.natCast_nonneg _
          have hk2 : (k : Int) < (rs.length : Int) := by omega
          have c0' : wi.cell? ⟨b, off + k, none⟩ = some (.slice xA xn xc) := c0
          clear hcell c0 hOI hL
          by_cases hz : q = 0
          · subst hz
            subst hxn
            have hL0 : L = [] := List.eq_nil_of_length_eq_zero f1
            subst hL0
            have hnx : Hid (nextS 1 ([] : List Int) = 1) := Lib.hid rfl
            clear f1 f2 f3 f4
            go_wp2
            go_loopw [4, 8] (fun v s wq => ∃ (j : Nat) (rs3 : List RowD), j ≤ 31 - 1 ∧ s = .int .i64 ((1 + j : Nat) : Int) ∧ wq.ownsRow wr.heap.size 26 1 v rs3.length (rs3.flatMap RowD.cells) ∧ Hid (RowsOk wq wr.heap.size rs3 (((allL 0 1).take k).flatMap (extS 1) ++ (List.range' 1 j).map (fun (c : Nat) => ([] : List Int) ++ [(c : Int)]))) ∧ Below wr.heap.size wr wq) (fun _ s _ => 31 - (intOf s).toNat)
            case atStart => exact ⟨0, rs2, by omega, rfl, hrow2.out, Lib.hid (by simpa using hok2.out), hbw2⟩
            case round =>
              rename World => wq
              obtain ⟨j, rs3, hj, rfl, hrow3, hok3, hbw3⟩ := hrel
              have hszq := hbw3.size
              by_cases hle : 1 + j ≤ 30
              · have hIq := (hI.out.below hbw3)
                have hl3 : rs3.length ≤ 30000 := by
                  have e1 := hok3.out.1
                  have e2 := ext_flat_len ((allL 0 1).take k)
                  rw [List.length_append, List.length_map, List.length_range'] at e1
                  rw [List.length_take] at e2
                  have e3 := hfew
                  omega
                have hsn : Hid (((allL 0 1).take k).flatMap (extS 1) ++ (List.range' 1 (j + 1)).map (fun (c : Nat) => ([] : List Int) ++ [(c : Int)]) = (((allL 0 1).take k).flatMap (extS 1) ++ (List.range' 1 j).map (fun (c : Nat) => ([] : List Int) ++ [(c : Int)])) ++ [([] : List Int) ++ [((1 + j : Nat) : Int)]]) := Lib.hid (by
                  rw [List.range'_concat, List.map_append, List.append_assoc, Nat.one_mul]; rfl)
                obtain ⟨s, hs⟩ : ∃ s : Nat, 1 + j = s := ⟨_, rfl⟩
                rw [hs] at hsn ⊢
                have hs1 : s ≤ 30 := by omega
                have hs2 : (s : Int) ≤ 30 := by omega
                have hwx : IntKind.i64.wrap ((s : Int) + 1) = ((s + 1 : Nat) : Int) := by rw [IntWalk.i64_in _ (by omega)]; omega
                replace hs := Lib.hid hs
                have hrw3 := Lib.hid hrow3
                clear hrow3
                go_wp2_with fail
                refine (concat8 (some ⟨wq.heap.size + 1, 0, none⟩) 2 2 [([] : List Int), [(s : Int)]] _ (iss2s (T := 26) (A := xA) (B := some ⟨wq.heap.size, 0, none⟩) (a := 0) (b := 1) (a' := xc) (b' := 1) (by
                    rw [← World.size_alloc wq (.cells #[.int .i64 (s : Int)] 2)]; exact heap_alloc_new _ _) (hIq.below (below_a2 _ _ _)) ⟨rfl, fun _ => ⟨wq.heap.size, 0, rfl, by simp; omega, fun i x hx j u hu => by
                      match i, hx with
                      | 0, hx =>
                        cases hx
                        match j, hu with
                        | 0, hu => cases hu; exact cell_on (cell_new rfl rfl) _
                        | j + 1, hu => simp [intC] at hu
                      | i + 1, hx => simp at hx⟩⟩ (by omega) (by omega)) (by omega) (by simp [tot])).mono ?_
                rintro e w5 ⟨A', n', c', rfl, hcap, hO, hb5⟩
                have hb35 := (below_a2 wq _ _).step hb5
                have hz5 := hb35.size
                have hE : Hid ([([] : List Int), [(s : Int)]].flatten = ([] : List Int) ++ [(s : Int)]) := Lib.hid (by simp)
                rw [hE.out] at hO
                have hO5 : OInts w5 wr.heap.size A' n' (([] : List Int) ++ [(s : Int)]) := ORow.mono hO (by simp <;> omega)
                have hrl := Lib.hid (owns_blk hrw3.out hb35)
                have hok5 := Lib.hid (hok3.out.below hb35)
                replace hO5 := Lib.hid hO5
                clear hO hb5 hE hrw3 hok3
                go_wp2_with (at_builtin; refine wpList_append_own _ rfl _ _ 44 rfl wr.heap.size 26 i0 _ 1 24 Try.underlying44 hi hz0 hz1 hz2 rfl (by decide) _ _ _ rfl (hrl.out.alloc _) ⟨w5.heap.size, 0, none⟩ 1 1 [.slice A' n' c'] rfl rfl (news8 _ _ _) (one9s _ _ _) (by unfold maxLen; omega) (by omega) (by simp; omega) ?_)
                intro vq w6 hownq hgrq hnilq
                have hgqq := grown_trans (grown_below (below_a1 w5 _) _) hgrq
                have hb6 := Lib.hid ((hbw3.trans (hb35.mono hszq)).grown hgqq (by omega) (fun j hj => owns_ge8 hrl.out hj))
                have hok6 := Lib.hid ((hok5.out.to (fun _ _ _ h9 => row_apart hrl.out h9 hgqq)).snoc (r := ⟨A', n', c'⟩) (row_apart hrl.out hO5.out hgqq))
                have hown6 : Hid (w6.ownsRow wr.heap.size 26 1 vq (rs3 ++ [(⟨A', n', c'⟩ : RowD)]).length ((rs3 ++ [(⟨A', n', c'⟩ : RowD)]).flatMap RowD.cells)) := Lib.hid (by
                  rw [List.length_append, List.flatMap_append]; exact hownq)
                clear hownq hgrq hnilq hgqq hrl hok5 hO5 hb35 hbw3
                go_wp2
                go_roundw
                case rel => exact ⟨j + 1, rs3 ++ [⟨A', n', c'⟩], by omega, by rw [show 1 + (j + 1) = s + 1 by have := hs.out; omega]; first | rfl | go_num, hown6.out, Lib.hid (by rw [hsn.out]; exact hok6.out), hb6.out⟩
                case measure => simp [intOf]; omega
              · obtain rfl : j = 31 - 1 := by omega
                have hs2 : ¬ ((1 + (31 - 1) : Nat) : Int) ≤ 30 := by omega
                obtain ⟨s, hs⟩ : ∃ s : Nat, 1 + (31 - 1) = s := ⟨_, rfl⟩
                rw [hs] at hs2 ⊢
                have hdn : Hid (RowsOk wq wr.heap.size rs3 (((allL 0 1).take (k + 1)).flatMap (extS 1))) := Lib.hid (by
                  rw [take8 hxL.out, List.flatMap_append]
                  have e1 : extS 1 ([] : List Int) = (List.range' 1 (31 - 1)).map (fun (c : Nat) => ([] : List Int) ++ [(c : Int)]) := by rw [extS, hnx.out]
                  rw [List.flatMap_cons, List.flatMap_nil, List.append_nil, e1]
                  exact hok3.out)
                replace hs := Lib.hid hs
                have hrw3 := Lib.hid hrow3
                clear hrow3 hok3
                go_wp2
                go_roundw
                case rel => exact ⟨_, _, _, _, _, ⟨k + 1, by omega, by go_num, rs3, hrw3.out, hdn.out⟩, rfl, rfl, rfl, rfl, rfl⟩
                case measure => simp [intOf]; omega
          · obtain rfl : q = 1 := by omega
            subst hxn
            obtain ⟨y, rfl⟩ : ∃ y, L = [y] := List.length_eq_one_iff.1 f1
            have f5 := f4 y (by simp)
            obtain ⟨g, rfl⟩ : ∃ g : Nat, y = (g : Int) := ⟨y.toNat, by omega⟩
            have hg1 : 1 ≤ g := by omega
            have hg30 : g ≤ 30 := by omega
            obtain ⟨b3, o3, x3, rfl, hb3, hx3, d0⟩ := int_at (hI.out.below hbw2) (show 0 < 1 by omega)
            have hx4 := hx3.out
            simp only [List.getElem?_cons_zero, Option.some.injEq] at hx4
            subst hx4
            rw [Nat.add_zero] at d0
            have hwg : IntKind.i64.wrap ((g : Int) + 1) = ((g + 1 : Nat) : Int) := by rw [IntWalk.i64_in _ (by omega)]; omega
            have hnx : Hid (nextS 1 [(g : Int)] = g + 1) := Lib.hid (by simp [nextS])
            clear f1 f2 f3 f4 f5 hx3
            go_wp2
            go_loopw [4, 8] (fun v s wq => ∃ (j : Nat) (rs3 : List RowD), j ≤ 31 - (g + 1) ∧ s = .int .i64 (((g + 1) + j : Nat) : Int) ∧ wq.ownsRow wr.heap.size 26 1 v rs3.length (rs3.flatMap RowD.cells) ∧ Hid (RowsOk wq wr.heap.size rs3 (((allL 1 1).take k).flatMap (extS 1) ++ (List.range' (g + 1) j).map (fun (c : Nat) => [(g : Int)] ++ [(c : Int)]))) ∧ Below wr.heap.size wr wq) (fun _ s _ => 31 - (intOf s).toNat)
            case atStart => exact ⟨0, rs2, by omega, rfl, hrow2.out, Lib.hid (by simpa using hok2.out), hbw2⟩
            case round =>
              rename World => wq
              obtain ⟨j, rs3, hj, rfl, hrow3, hok3, hbw3⟩ := hrel
              have hszq := hbw3.size
              by_cases hle : (g + 1) + j ≤ 30
              · have hIq := (hI.out.below hbw3)
                have hl3 : rs3.length ≤ 30000 := by
                  have e1 := hok3.out.1
                  have e2 := ext_flat_len ((allL 1 1).take k)
                  rw [List.length_append, List.length_map, List.length_range'] at e1
                  rw [List.length_take] at e2
                  have e3 := hfew
                  omega
                have hsn : Hid (((allL 1 1).take k).flatMap (extS 1) ++ (List.range' (g + 1) (j + 1)).map (fun (c : Nat) => [(g : Int)] ++ [(c : Int)]) = (((allL 1 1).take k).flatMap (extS 1) ++ (List.range' (g + 1) j).map (fun (c : Nat) => [(g : Int)] ++ [(c : Int)])) ++ [[(g : Int)] ++ [(((g + 1) + j : Nat) : Int)]]) := Lib.hid (by
                  rw [List.range'_concat, List.map_append, List.append_assoc, Nat.one_mul]; rfl)
                obtain ⟨s, hs⟩ : ∃ s : Nat, (g + 1) + j = s := ⟨_, rfl⟩
                rw [hs] at hsn ⊢
                have hs1 : s ≤ 30 := by omega
                have hs2 : (s : Int) ≤ 30 := by omega
                have hwx : IntKind.i64.wrap ((s : Int) + 1) = ((s + 1 : Nat) : Int) := by rw [IntWalk.i64_in _ (by omega)]; omega
                replace hs := Lib.hid hs
                have hrw3 := Lib.hid hrow3
                clear hrow3
                go_wp2_with fail
                refine (concat8 (some ⟨wq.heap.size + 1, 0, none⟩) 2 2 [[(g : Int)], [(s : Int)]] _ (iss2s (T := 26) (A := (some ⟨b3, o3, none⟩)) (B := some ⟨wq.heap.size, 0, none⟩) (a := 1) (b := 1) (a' := xc) (b' := 1) (by
                    rw [← World.size_alloc wq (.cells #[.int .i64 (s : Int)] 2)]; exact heap_alloc_new _ _) (hIq.below (below_a2 _ _ _)) ⟨rfl, fun _ => ⟨wq.heap.size, 0, rfl, by simp; omega, fun i x hx j u hu => by
                      match i, hx with
                      | 0, hx =>
                        cases hx
                        match j, hu with
                        | 0, hu => cases hu; exact cell_on (cell_new rfl rfl) _
                        | j + 1, hu => simp [intC] at hu
                      | i + 1, hx => simp at hx⟩⟩ (by omega) (by omega)) (by omega) (by simp [tot])).mono ?_
                rintro e w5 ⟨A', n', c', rfl, hcap, hO, hb5⟩
                have hb35 := (below_a2 wq _ _).step hb5
                have hz5 := hb35.size
                have hE : Hid ([[(g : Int)], [(s : Int)]].flatten = [(g : Int)] ++ [(s : Int)]) := Lib.hid (by simp)
                rw [hE.out] at hO
                have hO5 : OInts w5 wr.heap.size A' n' ([(g : Int)] ++ [(s : Int)]) := ORow.mono hO (by simp <;> omega)
                have hrl := Lib.hid (owns_blk hrw3.out hb35)
                have hok5 := Lib.hid (hok3.out.below hb35)
                replace hO5 := Lib.hid hO5
                clear hO hb5 hE hrw3 hok3
                go_wp2_with (at_builtin; refine wpList_append_own _ rfl _ _ 44 rfl wr.heap.size 26 i0 _ 1 24 Try.underlying44 hi hz0 hz1 hz2 rfl (by decide) _ _ _ rfl (hrl.out.alloc _) ⟨w5.heap.size, 0, none⟩ 1 1 [.slice A' n' c'] rfl rfl (news8 _ _ _) (one9s _ _ _) (by unfold maxLen; omega) (by omega) (by simp; omega) ?_)
                intro vq w6 hownq hgrq hnilq
                have hgqq := grown_trans (grown_below (below_a1 w5 _) _) hgrq
                have hb6 := Lib.hid ((hbw3.trans (hb35.mono hszq)).grown hgqq (by omega) (fun j hj => owns_ge8 hrl.out hj))
                have hok6 := Lib.hid ((hok5.out.to (fun _ _ _ h9 => row_apart hrl.out h9 hgqq)).snoc (r := ⟨A', n', c'⟩) (row_apart hrl.out hO5.out hgqq))
                have hown6 : Hid (w6.ownsRow wr.heap.size 26 1 vq (rs3 ++ [(⟨A', n', c'⟩ : RowD)]).length ((rs3 ++ [(⟨A', n', c'⟩ : RowD)]).flatMap RowD.cells)) := Lib.hid (by
                  rw [List.length_append, List.flatMap_append]; exact hownq)
                clear hownq hgrq hnilq hgqq hrl hok5 hO5 hb35 hbw3
                go_wp2
                go_roundw
                case rel => exact ⟨j + 1, rs3 ++ [⟨A', n', c'⟩], by omega, by rw [show (g + 1) + (j + 1) = s + 1 by have := hs.out; omega]; first | rfl | go_num, hown6.out, Lib.hid (by rw [hsn.out]; exact hok6.out), hb6.out⟩
                case measure => simp [intOf]; omega
              · obtain rfl : j = 31 - (g + 1) := by omega
                have hs2 : ¬ (((g + 1) + (31 - (g + 1)) : Nat) : Int) ≤ 30 := by omega
                obtain ⟨s, hs⟩ : ∃ s : Nat, (g + 1) + (31 - (g + 1)) = s := ⟨_, rfl⟩
                rw [hs] at hs2 ⊢
                have hdn : Hid (RowsOk wq wr.heap.size rs3 (((allL 1 1).take (k + 1)).flatMap (extS 1))) := Lib.hid (by
                  rw [take8 hxL.out, List.flatMap_append]
                  have e1 : extS 1 [(g : Int)] = (List.range' (g + 1) (31 - (g + 1))).map (fun (c : Nat) => [(g : Int)] ++ [(c : Int)]) := by rw [extS, hnx.out]
                  rw [List.flatMap_cons, List.flatMap_nil, List.append_nil, e1]
                  exact hok3.out)
                replace hs := Lib.hid hs
                have hrw3 := Lib.hid hrow3
                clear hrow3 hok3
                go_wp2
                go_roundw
                case rel => exact ⟨_, _, _, _, _, ⟨k + 1, by omega, by go_num, rs3, hrw3.out, hdn.out⟩, rfl, rfl, rfl, rfl, rfl⟩
                case measure => simp [intOf]; omega
        · obtain rfl : k = rs.length := by omega
          have hdn : Hid (RowsOk wi wr.heap.size rs2 (allL (q + 1) 1)) := Lib.hid (by
            rw [allL_snoc]
            have := hok2.out
            rw [List.take_of_length_le (by omega)] at this
            exact this)
          go_wp2
          go_roundw
          case rel => exact ⟨q + 1, rs2, by omega, by go_num, owns_monoS hrow2.out hsz, hdn.out.to (fun _ _ _ h9 => ORow.mono h9 hsz), hbw.trans (hbw2.mono hsz)⟩
          case measure => simp [intOf]; omega
    · obtain rfl : q = q0 := by omega
      go_wp2
      go_ret
      exact ⟨A, c, rs, rfl, hO, hok, hbw⟩
end Go.Proofs.Ytijelimpkcnbjaa

/- BestStops: the program. -/
namespace Go.Proofs.Ytijelimpkcnbjaa
open Go.RowKit Go.ChangeShapes Go.WideShapes Go.Deep
set_option linter.unusedVariables false
set_option linter.unusedSimpArgs false

theorem allL_rises : ∀ (m a : Nat), ∀ L ∈ allL m a, risesB 30 (a : Int) L = true
  | 0, a, L, h => by
    rw [allL, List.mem_singleton] at h
    subst h
    rfl
  | m + 1, a, L, h => by
    rw [allL, List.mem_flatMap] at h
    obtain ⟨c, hc, h⟩ := h
    obtain ⟨t, ht, rfl⟩ := List.mem_map.1 h
    rw [List.mem_range'_1] at hc
    have h1 := allL_rises m (c + 1) t ht
    rw [risesB, inR_iff.2 ⟨by omega, by omega⟩, Bool.true_and]
    rw [Int.natCast_add] at h1
    exact h1
theorem allL_st {m : Nat} (hm : m ≤ 2) {L : List Int} (h : L ∈ allL m 1) : stB L = true := by
  have h1 := allL_rises m 1 L h
  have h2 := (allL_in m 1 (by omega) L h).1
  rw [stB, decide_eq_true (by omega), Bool.true_and]
  exact h1
/-- What the program holds of the best list so far. -/
def AccB (W : World) (base : Nat) (bv lv : Value) : Option (List Int × Nat) → Prop
  | none => bv = .slice none 0 0 ∧ lv = .int .i64 9223372036854775807
  | some p => ∃ A n c, bv = .slice A n c ∧ lv = .int .i64 (p.2 : Int) ∧ n ≤ 6 ∧ p.2 ≤ 4000000 ∧ OInts W base A n p.1
theorem AccB.below {W W' : World} {base : Nat} {bv lv : Value} {acc : Option (List Int × Nat)} (h : AccB W base bv lv acc) (hb : Below W.heap.size W W') : AccB W' base bv lv acc := by
  match acc, h with
  | none, h => exact h
  | some p, ⟨A, n, c, h1, h2, h3, h4, h5⟩ => exact ⟨A, n, c, h1, h2, h3, h4, ORow.below h5 hb⟩
theorem take_fold {rs : List ByteArray} {X : List (List Int)} {k : Nat} {L : List Int} (h : X[k]? = some L) : (X.take (k + 1)).foldl (pickS rs) none = pickS rs ((X.take k).foldl (pickS rs) none) L := by
  rw [take8 h, List.foldl_append]
  rfl
theorem bestR_q {rs : List ByteArray} {k q : Int} (hq : rowsC rs.length rs = q) (h0 : q ≠ 0) : bestR rs k = ([], 0, q) := by
  rw [rowsC] at hq
  rw [bestR]
  by_cases h12 : 12 < rs.length
  · rw [if_pos h12] at hq ⊢
    rw [← hq]
  · rw [if_neg h12] at hq ⊢
    by_cases h3 : rs.all rowB = true
    · rw [if_pos h3] at hq; omega
    · rw [if_neg h3] at hq
      rw [if_neg (by simp [h3]), ← hq]
theorem bestR_2 {rs : List ByteArray} {k : Int} (hq : rowsC rs.length rs = 0) (h0 : inR k 0 2 = false) : bestR rs k = ([], 0, 2) := by
  obtain ⟨h1, h2⟩ := rowsC_0 hq
  rw [bestR, if_neg (by omega), if_neg (by simp [h0])]
theorem bestR_0 {rs : List ByteArray} {k : Int} (hq : rowsC rs.length rs = 0) (h0 : inR k 0 2 = true) : bestR rs k = ((bsV (bestS rs k.toNat)).1, (bsV (bestS rs k.toNat)).2, 0) := by
  obtain ⟨h1, h2⟩ := rowsC_0 hq
  rw [bestR, if_neg (by omega), if_pos (by simp [h0, h2])]
set_option maxRecDepth 100000 in
set_option maxHeartbeats 3200000 in
theorem bsW11 (B : Option Addr) (m d : Nat) (rs : List ByteArray) (k : Int) (w : World) (hR : Strs w B m rs) (hm : m ≤ 1048576) (hg : ∀ x ∈ rs, x.size ≤ maxLen) {r : List Int × Int × Int} (hr : bestR rs k = r) :
    Calls Try.prog 7 #[.slice B m d, .int .i64 k] w (I3Out r w) := by
  have hl := hR.1
  obtain ⟨q, hq⟩ : ∃ q, rowsC m rs = q := ⟨_, rfl⟩
  have hck := Lib.hid (checkRows11 B m d rs hq w hR hm hg)
  by_cases hq0 : q = 0
  · subst hq0
    rw [← hl] at hq
    obtain ⟨k1, k2⟩ := rowsC_0 hq
    cases hin : inR k 0 2 with
    | false =>
      have hrr : Hid (r = ([], 0, 2)) := Lib.hid (by rw [← hr, bestR_2 hq hin])
      have hc := Lib.hid (fun W => in8_impl hin W)
      clear hr hq hR hg
      go_enter Try.func7, Try.ntmps7
      go_wp2_with fail
      refine hck.out.mono ?_
      rintro e w1 ⟨rfl, rfl⟩
      go_wp2_with fail
      refine (hc.out _).mono ?_
      rintro e w1 ⟨rfl, rfl⟩
      go_wp2
      go_ret3
      exact I3Out.bad hrr.out (Below.refl _ _)
    | true =>
      have hc := Lib.hid (fun W => in8_impl hin W)
      obtain ⟨h0, h2⟩ := inR_iff.1 hin
      obtain ⟨t, rfl⟩ : ∃ t : Nat, k = (t : Int) := ⟨k.toNat, by omega⟩
      have ht : t ≤ 2 := by omega
      have hrr : Hid (r = ((bsV (bestS rs t)).1, (bsV (bestS rs t)).2, 0)) := Lib.hid (by rw [← hr, bestR_0 hq hin]; rfl)
      have hcw := Lib.hid (cwW11 B m d rs w hR (by omega) k2)
      clear hr hq hR hg hin
      go_enter Try.func7, Try.ntmps7
      go_wp2_with fail
      refine hck.out.mono ?_
      rintro e w1 ⟨rfl, rfl⟩
      go_wp2_with fail
      refine (hc.out _).mono ?_
      rintro e w1 ⟨rfl, rfl⟩
      go_wp2_with fail
      refine hcw.out.mono ?_
      rintro e w2 ⟨bm, l, rfl, hM, hbm, hb2, htot, hko, hsum⟩
      have hll : l.length ≤ 360 := Nat.le_trans hko.few htot
      have hone : ∀ x ∈ l, x.1.1 ≤ 30 ∧ x.1.2 ≤ 30 ∧ x.2 ≤ 360 := fun x hx => ⟨(hko x hx).1, (hko x hx).2.1, Nat.le_trans (sum_one_le hx) htot⟩
      have hpg : Hid (∀ L, sumN (wayN L) l = pageN L rs ∧ pageN L rs ≤ 4000000) := Lib.hid fun L => by
        have e1 : sumN (wayN L) l = pageN L rs := by rw [hsum, pageN_sum]
        have e2 : sumN (wayN L) l ≤ 10800 * l.length := sumN_most fun x hx => ⟨(hone x hx).2.2, wayP_30 (hone x hx).1 (hone x hx).2.1⟩
        exact ⟨e1, by omega⟩
      replace hko := Lib.hid hko
      have hsl := Lib.hid (slW11 t ht w2)
      have hMl := hM.lt
      have hz2 := hb2.size
      clear hsum hone hll
      go_wp2_with fail
      refine hsl.out.mono ?_
      rintro e w3 ⟨A3, c3, rs3, rfl, hO3, hok3, hb3⟩
      have hM3 := hM.below hb3 hMl
      have hb03 := Lib.hid (hb2.step hb3)
      have hz3 := hb3.size
      have hrl := hok3.1
      have hfew := allL_few ht
      replace hO3 := Lib.hid hO3
      replace hok3 := Lib.hid hok3
      replace hM3 := Lib.hid hM3
      have hMl3 : bm < w3.heap.size := by omega
      clear hM hb2 hb3 hsl hcw hck hc
      go_wp2
      go_loopw [9, 10, 12, 13, 27] (fun bv lv _ _ i wr => ∃ k : Nat, k ≤ rs3.length ∧ i = .int .i64 (k : Int) ∧ AccB wr w.heap.size bv lv (((allL t 1).take k).foldl (pickS rs) none) ∧ Below w3.heap.size w3 wr) (fun _ _ _ _ i _ => rs3.length - (intOf i).toNat)
      case atStart => exact ⟨0, by omega, rfl, ⟨rfl, rfl⟩, Below.refl _ _⟩
      case round =>
        rename World => wr
        obtain ⟨k, hk, rfl, hacc, hbr⟩ := hrel
        have hszr := hbr.size
        by_cases hlt : k < rs3.length
        · obtain ⟨b, off, ⟨xA, xn, xc⟩, rfl, hb, hx, hcell⟩ := (hO3.out.srow.below hbr).at_ hlt
          have c0 := hcell 0 _ rfl
          rw [Nat.mul_one, Nat.add_zero] at c0
          have c0' : wr.cell? ⟨b, off + k, none⟩ = some (.slice xA xn xc) := c0
          have hlL : k < (allL t 1).length := by omega
          obtain ⟨L, hL⟩ : ∃ L, (allL t 1)[k]? = some L := ⟨_, List.getElem?_eq_getElem hlL⟩
          have hOI : OInts wr w.heap.size xA xn L := ORow.mono (ORow.below (hok3.out.2 k _ _ hx hL) hbr) hz2
          have hmem := List.mem_of_getElem? hL
          have hxn : xn ≤ 6 := by
            have e1 := (allL_in t 1 (by omega) L hmem).1
            have e2 := hOI.1
            omega
          have hst := allL_st ht hmem
          obtain ⟨hp1, hp2⟩ := hpg.out L
          have hmf := Lib.hid (mfW11 bm l xA xn xc L wr (hM3.out.below hbr hMl3) hOI.srow hxn hst htot hko.out hp1)
          have hnx := Lib.hid (take_fold (rs := rs) hL)
          have hk0 : (0 : Int) ≤ (k : Int) := Int.natCast_nonneg _
          have hk2 : (k : Int) < (rs3.length : Int) := by omega
          replace hOI := Lib.hid hOI
          generalize hP : pageN L rs = P at *
          generalize hacv : ((allL t 1).take k).foldl (pickS rs) none = acc at *
          clear hcell c0 hL hmem hst hp1 hacv
          match acc, hacc with
          | none, ⟨hv1, hv2⟩ =>
            subst hv1
            subst hv2
            have g0 : (P : Int) < 9223372036854775807 := by omega
            have hn2 : Hid (((allL t 1).take (k + 1)).foldl (pickS rs) none = some (L, P)) := Lib.hid (by rw [hnx.out, pickS, hP])
            go_wp2_with fail
            refine hmf.out.mono ?_
            rintro e w5 ⟨rfl, hb5⟩
            have hO5 := Lib.hid (ORow.below hOI.out hb5)
            have hb35 := Lib.hid (hbr.trans (hb5.mono hszr))
            clear hb5 hbr hmf
            go_wp2
            go_roundw
            case rel => exact ⟨k + 1, by omega, by go_num, by rw [hn2.out]; exact ⟨xA, xn, xc, rfl, rfl, hxn, hp2, hO5.out⟩, hb35.out⟩
            case measure => simp [intOf]; omega
          | some (bl, mn), ⟨Ab, nb, cb, hv1, hv2, hnb, hmn, hOb⟩ =>
            simp only at hv2 hmn hOb
            subst hv1
            subst hv2
            replace hOb := Lib.hid hOb
            by_cases hlm : P < mn
            · have g0 : (P : Int) < (mn : Int) := by omega
              have hn2 : Hid (((allL t 1).take (k + 1)).foldl (pickS rs) none = some (L, P)) := Lib.hid (by rw [hnx.out, pickS, hP]; exact if_pos hlm)
              go_wp2_with fail
              refine hmf.out.mono ?_
              rintro e w5 ⟨rfl, hb5⟩
              have hO5 := Lib.hid (ORow.below hOI.out hb5)
              have hb35 := Lib.hid (hbr.trans (hb5.mono hszr))
              clear hb5 hbr hmf
              go_wp2
              go_roundw
              case rel => exact ⟨k + 1, by omega, by go_num, by rw [hn2.out]; exact ⟨xA, xn, xc, rfl, rfl, hxn, hp2, hO5.out⟩, hb35.out⟩
              case measure => simp [intOf]; omega
            · have g0 : ¬ (P : Int) < (mn : Int) := by omega
              have hn2 : Hid (((allL t 1).take (k + 1)).foldl (pickS rs) none = some (bl, mn)) := Lib.hid (by rw [hnx.out, pickS, hP]; exact if_neg hlm)
              go_wp2_with fail
              refine hmf.out.mono ?_
              rintro e w5 ⟨rfl, hb5⟩
              have hO5 := Lib.hid (ORow.below hOb.out hb5)
              have hb35 := Lib.hid (hbr.trans (hb5.mono hszr))
              clear hb5 hbr hmf
              go_wp2
              go_roundw
              case rel => exact ⟨k + 1, by omega, by go_num, by rw [hn2.out]; exact ⟨Ab, nb, cb, rfl, rfl, hnb, hmn, hO5.out⟩, hb35.out⟩
              case measure => simp [intOf]; omega
        · obtain rfl : k = rs3.length := by omega
          rw [List.take_of_length_le (by omega)] at hacc
          obtain ⟨p, hp⟩ := best_some rs ht
          have hp' : (allL t 1).foldl (pickS rs) none = some p := hp
          rw [hp'] at hacc
          obtain ⟨Ab, nb, cb, rfl, rfl, hnb, hmn, hOb⟩ := hacc
          have hfin : Hid (r = (p.1, (p.2 : Int), 0)) := Lib.hid (by rw [hrr.out, hp]; rfl)
          replace hOb := Lib.hid hOb
          clear hp hp' hrr
          go_wp2
          go_ret3
          exact ⟨Ab, nb, cb, by rw [hfin.out]; rfl, by omega, by rw [hfin.out]; exact hOb.out, hb03.out.trans (hbr.mono (by omega))⟩
  · rw [← hl] at hq
    have hrr : Hid (r = ([], 0, q)) := Lib.hid (by rw [← hr, bestR_q hq hq0])
    have g1 : (q == 0) = false := beq_eq_false_iff_ne.2 hq0
    have g2 : (q != 0) = true := by rw [bne, g1]; rfl
    clear hr hq hR hg
    go_enter Try.func7, Try.ntmps7
    go_wp2_with fail
    refine hck.out.mono ?_
    rintro e w1 ⟨rfl, rfl⟩
    go_wp2
    go_ret3
    exact I3Out.bad hrr.out (Below.refl _ _)
theorem bs11_impl (B : Option Addr) (m d : Nat) (rs : List ByteArray) (k : Int) (w : World) (hR : Strs w B m rs) (hm : m ≤ 1048576) (hg : ∀ x ∈ rs, x.size ≤ maxLen) (hk : (Lit.int .i64 k).wf = true) :
    Calls Try.prog 7 #[.slice B m d, .int .i64 k] w fun e w' => ∃ A n c, e = .returned (.tuple #[.slice A n c, .int .i64 (bestR rs k).2.1, .int .i64 (bestR rs k).2.2]) ∧ n ≤ 1048576 ∧ OInts w' w.heap.size A n (bestR rs k).1 ∧ Below w.heap.size w w' := bsW11 B m d rs k w hR hm hg rfl
end Go.Proofs.Ytijelimpkcnbjaa

/- More stops never need more moves: without a program. -/
namespace Go.Proofs.Ytijelimpkcnbjaa
open Go.RowKit Go.ChangeShapes Go.WideShapes Go.Deep
set_option linter.unusedVariables false
set_option linter.unusedSimpArgs false

/-- Columns are carried over to columns, and each move to one move or none. -/
theorem far_map {S S' : List Int} {t : Nat} {D D' : Nat → Int} (ht : t ≤ 30) (h : IsFar S t D) (h' : IsFar S' t D') (φ : Nat → Nat) (hφ : ∀ a, a ≤ 30 → φ a ≤ 30) (h0 : φ t = t)
    (hst : ∀ a : Nat, a ≤ 30 → ∀ k, k < 3 → ∀ n : Nat, nextP S (a : Int) (mvB k) = (n : Int) → φ a = φ n ∨ ∃ k', k' < 3 ∧ nextP S' (φ a : Int) (mvB k') = (φ n : Int)) : ∀ (N a : Nat), a ≤ 30 → D a ≤ (N : Int) → D' (φ a) ≤ D a := by
  intro N
  induction N with
  | zero =>
    intro a ha hN
    by_cases e : a = t
    · subst e
      rw [h0, h.zero, h'.zero]
      exact Int.le_refl _
    · obtain ⟨k, hk, n, hn, hd⟩ := h.back a ha e
      have := h.pos n (next_le hn)
      omega
  | succ N ih =>
    intro a ha hN
    by_cases e : a = t
    · subst e
      rw [h0, h.zero, h'.zero]
      exact Int.le_refl _
    · obtain ⟨k, hk, n, hn, hd⟩ := h.back a ha e
      have hn30 := next_le hn
      have h1 := ih n hn30 (by omega)
      rcases hst a ha k hk n hn with h2 | ⟨k', hk', h2⟩
      · rw [h2]
        omega
      · have := h'.step (φ a) (hφ a ha) k' hk' (φ n) h2
        omega
theorem tab_snoc (b : Int) : ∀ (S : List Int) (a : Int), 0 ≤ tabP S a → tabP (S ++ [b]) a = tabP S a
  | [], a, h => by simp [tabP] at h
  | p :: r, a, h => by
    rw [List.cons_append, tabP, tabP]
    rw [tabP] at h
    split
    · rfl
    · rename_i h1
      rw [if_neg h1] at h
      exact tab_snoc b r a h
theorem raw_snoc {S : List Int} {b a : Int} {m : UInt8} (h : 0 ≤ rawP S a m) : rawP (S ++ [b]) a m = rawP S a m := by
  unfold rawP at h ⊢
  by_cases h1 : m.toNat = 62
  · rw [if_pos h1, if_pos h1]
  · rw [if_neg h1] at h ⊢
    rw [if_neg h1]
    by_cases h2 : m.toNat = 60
    · rw [if_pos h2, if_pos h2]
    · rw [if_neg h2] at h ⊢
      rw [if_neg h2]
      by_cases h3 : m.toNat = 35
      · rw [if_pos h3] at h ⊢
        rw [if_pos h3]
        exact tab_snoc b S a h
      · rw [if_neg h3, if_neg h3]
theorem next_snoc {S : List Int} {b a : Int} {m : UInt8} {n : Nat} (h : nextP S a m = (n : Int)) : nextP (S ++ [b]) a m = (n : Int) := by
  unfold nextP at h ⊢
  by_cases h1 : inR (rawP S a m) 0 30 = true
  · rw [if_pos h1] at h
    have h2 := (inR_iff.1 h1).1
    rw [raw_snoc h2, if_pos h1]
    exact h
  · rw [if_neg h1] at h
    omega
theorem wayN_far {S : List Int} {k : Nat × Nat} (h1 : k.1 ≤ 30) (h2 : k.2 ≤ 30) : (wayN S k : Int) = farP S k.2 k.1 ∧ farP S k.2 k.1 ≤ 30 := by
  obtain ⟨F, hF⟩ := isFar_ex S (t := k.2) h2
  have hf := hF.far h2
  have h30 := far_30 h2 hf.zero hf.step (a := k.1) h1
  exact ⟨way_len hf 31 k.1 h1 (by omega), h30⟩
theorem farP_far (S : List Int) {t : Nat} (h : t ≤ 30) : IsFar S t (farP S t) := by
  obtain ⟨F, hF⟩ := isFar_ex S (t := t) h
  exact hF.far h
theorem way_more {S : List Int} (b : Int) {k : Nat × Nat} (h1 : k.1 ≤ 30) (h2 : k.2 ≤ 30) : wayN (S ++ [b]) k ≤ wayN S k := by
  obtain ⟨e1, e2⟩ := wayN_far (S := S) h1 h2
  obtain ⟨e3, e4⟩ := wayN_far (S := S ++ [b]) h1 h2
  have := far_map h2 (farP_far S h2) (farP_far (S ++ [b]) h2) id (fun a h => h) rfl (fun a ha j hj n hn => .inr ⟨j, hj, next_snoc hn⟩) 30 k.1 h1 e2
  simp only [id] at this
  omega
theorem step_29 : ∀ a : Nat, a < 31 → ∀ k, k < 3 → ∀ n : Nat, n < 31 → nextP [30] ((a : Nat) : Int) (mvB k) = ((n : Nat) : Int) → min a 29 = min n 29 ∨ ∃ k', k' < 3 ∧ nextP [29, 30] ((min a 29 : Nat) : Int) (mvB k') = ((min n 29 : Nat) : Int) := by
  intro a ha k hk n hn h
  rcases (show k = 0 ∨ k = 1 ∨ k = 2 by omega) with rfl | rfl | rfl
  · by_cases h1 : a < 30
    · have e : n = 30 := by
        simp [nextP, rawP, mvB, tabP, inR, show (a : Int) < 30 by omega] at h
        omega
      subst e
      by_cases h2 : a = 29
      · left; omega
      · right
        refine ⟨0, by omega, ?_⟩
        rw [show min a 29 = a by omega]
        simp [nextP, rawP, mvB, tabP, inR, show (a : Int) < 29 by omega]
    · exfalso
      simp [nextP, rawP, mvB, tabP, inR, show ¬ (a : Int) < 30 by omega] at h
  · by_cases h1 : 0 < a
    · have e : n + 1 = a := by
        simp [nextP, rawP, mvB, inR, show (0 : Int) ≤ (a : Int) - 1 by omega, show (a : Int) - 1 ≤ 30 by omega] at h
        omega
      by_cases h2 : a = 30
      · left; omega
      · right
        refine ⟨1, by omega, ?_⟩
        rw [show min a 29 = a by omega, show min n 29 = n by omega]
        simp [nextP, rawP, mvB, inR, show (0 : Int) ≤ (a : Int) - 1 by omega, show (a : Int) - 1 ≤ 30 by omega]
        omega
    · exfalso
      have e : a = 0 := by omega
      subst e
      simp [nextP, rawP, mvB, inR] at h
  · by_cases h1 : a < 30
    · have e : n = a + 1 := by
        simp [nextP, rawP, mvB, inR, show (0 : Int) ≤ (a : Int) + 1 by omega, show (a : Int) + 1 ≤ 30 by omega] at h
        omega
      by_cases h2 : a = 29
      · left; omega
      · right
        refine ⟨2, by omega, ?_⟩
        rw [show min a 29 = a by omega, show min n 29 = n by omega]
        simp [nextP, rawP, mvB, inR, show (0 : Int) ≤ (a : Int) + 1 by omega, show (a : Int) + 1 ≤ 30 by omega]
        omega
    · exfalso
      have e : a = 30 := by omega
      subst e
      simp [nextP, rawP, mvB, inR] at h
theorem way_29 {k : Nat × Nat} (h1 : k.1 ≤ 29) (h2 : k.2 ≤ 29) : wayN [29, 30] k ≤ wayN [30] k := by
  obtain ⟨e1, e2⟩ := wayN_far (S := [30]) (k := k) (by omega) (by omega)
  obtain ⟨e3, e4⟩ := wayN_far (S := [29, 30]) (k := k) (by omega) (by omega)
  have := far_map (by omega) (farP_far [30] (t := k.2) (by omega)) (farP_far [29, 30] (by omega)) (fun a => min a 29) (fun a h => by show min a 29 ≤ 30; omega) (by show min k.2 29 = k.2; omega) (fun a ha j hj n hn => step_29 a (by omega) j hj n (by have := next_le hn; omega) hn) 30 k.1 (by omega) e2
  rw [show min k.1 29 = k.1 by omega] at this
  omega
theorem lt_bound (s : ByteArray) : ∀ k, ∀ x ∈ (ltF s k).1, x.1 ≤ x.2.1 ∧ x.2.1 < k
  | 0, x, h => by cases h
  | k + 1, x, h => by
    rw [ltF] at h
    split at h
    · have := lt_bound s k x h
      omega
    · rcases List.mem_append.1 h with h | h
      · have := lt_bound s k x h
        omega
      · rw [List.mem_singleton] at h
        subst h
        have := (ltF_le s k).1
        exact ⟨this, Nat.lt_succ_self k⟩
theorem sum_le_sum {α : Type} (f g : α → Nat) : ∀ l : List α, (∀ x ∈ l, f x ≤ g x) → (l.map f).sum ≤ (l.map g).sum
  | [], _ => Nat.le_refl _
  | x :: l, h => by
    have h1 := h x (by simp)
    have h2 := sum_le_sum f g l fun y hy => h y (by simp [hy])
    simp only [List.map_cons, List.sum_cons]
    omega
theorem page_le {S S' : List Int} {rs : List ByteArray} (hr : rs.all rowB = true) (h : ∀ k : Nat × Nat, k.1 ≤ 29 → k.2 ≤ 29 → wayN S' k ≤ wayN S k) : pageN S' rs ≤ pageN S rs := by
  rw [pageN_sum, pageN_sum]
  refine sum_le_sum _ _ _ fun s hs => ?_
  have hsz := rowB_size (List.all_eq_true.1 hr s hs)
  refine sum_le_sum _ _ _ fun x hx => ?_
  have := lt_bound s s.size x (List.mem_filter.1 hx).1
  exact h _ (by show x.1 ≤ 29; omega) (by show x.2.1 ≤ 29; omega)
theorem pick_least (rs : List ByteArray) : ∀ (X : List (List Int)) (acc : Option (List Int × Nat)) (L : List Int) (n : Nat), X.foldl (pickS rs) acc = some (L, n) →
    (acc = some (L, n) ∨ (L ∈ X ∧ n = pageN L rs)) ∧ (∀ q, acc = some q → n ≤ q.2) ∧ ∀ S ∈ X, n ≤ pageN S rs
  | [], acc, L, n, h => ⟨.inl h, fun q hq => by rw [List.foldl_nil] at h; rw [h] at hq; cases hq; exact Nat.le_refl _, fun S hS => by cases hS⟩
  | S :: X, acc, L, n, h => by
    rw [List.foldl_cons] at h
    obtain ⟨h1, h2, h3⟩ := pick_least rs X _ L n h
    match acc, h1, h2 with
    | none, h1, h2 =>
      have h4 := h2 (S, pageN S rs) rfl
      refine ⟨.inr ?_, fun q hq => (by cases hq), fun T hT => ?_⟩
      · rcases h1 with h1 | ⟨h1, h5⟩
        · have e : (S, pageN S rs) = (L, n) := Option.some.inj h1
          cases e
          exact ⟨by simp, rfl⟩
        · exact ⟨by simp [h1], h5⟩
      · rcases List.mem_cons.1 hT with rfl | hT
        · exact h4
        · exact h3 T hT
    | some (b, l), h1, h2 =>
      by_cases hlt : pageN S rs < l
      · have e0 : pickS rs (some (b, l)) S = some (S, pageN S rs) := if_pos hlt
        rw [e0] at h1 h2
        have h4 := h2 _ rfl
        simp only at h4
        refine ⟨.inr ?_, fun q hq => by cases hq; show n ≤ l; omega, fun T hT => ?_⟩
        · rcases h1 with h1 | ⟨h1, h5⟩
          · cases h1
            exact ⟨by simp, rfl⟩
          · exact ⟨by simp [h1], h5⟩
        · rcases List.mem_cons.1 hT with rfl | hT
          · exact h4
          · exact h3 T hT
      · have e0 : pickS rs (some (b, l)) S = some (b, l) := if_neg hlt
        rw [e0] at h1 h2
        have h4 := h2 _ rfl
        simp only at h4
        refine ⟨?_, fun q hq => by cases hq; exact h4, fun T hT => ?_⟩
        · rcases h1 with h1 | ⟨h1, h5⟩
          · exact .inl h1
          · exact .inr ⟨by simp [h1], h5⟩
        · rcases List.mem_cons.1 hT with rfl | hT
          · omega
          · exact h3 T hT
/-- The best list, and what it needs. -/
theorem best_is (rs : List ByteArray) {m : Nat} (h : m ≤ 2) : ∃ L n, bestS rs m = some (L, n) ∧ L ∈ allL m 1 ∧ n = pageN L rs ∧ ∀ S ∈ allL m 1, n ≤ pageN S rs := by
  obtain ⟨⟨L, n⟩, hq⟩ := best_some rs h
  obtain ⟨h1, h2, h3⟩ := pick_least rs _ _ L n hq
  rcases h1 with h1 | ⟨h1, h4⟩
  · cases h1
  · exact ⟨L, n, hq, h1, h4, h3⟩
theorem in_allL1 {c : Nat} (h1 : 1 ≤ c) (h2 : c ≤ 30) : [(c : Int)] ∈ allL 1 1 := by
  rw [allL, List.mem_flatMap]
  exact ⟨c, by rw [List.mem_range'_1]; omega, by simp [allL]⟩
theorem in_allL2 {c d : Nat} (h1 : 1 ≤ c) (h2 : c < d) (h3 : d ≤ 30) : [(c : Int), (d : Int)] ∈ allL 2 1 := by
  rw [allL, List.mem_flatMap]
  refine ⟨c, by rw [List.mem_range'_1]; omega, List.mem_map.2 ⟨[(d : Int)], ?_, rfl⟩⟩
  rw [allL, List.mem_flatMap]
  exact ⟨d, by rw [List.mem_range'_1]; omega, by simp [allL]⟩
theorem best_more {rs : List ByteArray} (hr : rs.all rowB = true) {m : Nat} (h : m ≤ 1) {L L' : List Int} {n n' : Nat} (h1 : bestS rs m = some (L, n)) (h2 : bestS rs (m + 1) = some (L', n')) : n' ≤ n := by
  obtain ⟨L0, n0, e1, e2, e3, e4⟩ := best_is rs (m := m) (by omega)
  rw [h1] at e1
  cases e1
  obtain ⟨L1, n1, f1, f2, f3, f4⟩ := best_is rs (m := m + 1) (by omega)
  rw [h2] at f1
  cases f1
  rcases (show m = 0 ∨ m = 1 by omega) with rfl | rfl
  · rw [allL, List.mem_singleton] at e2
    subst e2
    have g1 := f4 _ (in_allL1 (c := 30) (by omega) (by omega))
    have g2 := page_le (S := []) (S' := [30]) hr (fun k k1 k2 => way_more (S := []) 30 (by omega) (by omega))
    have g3 : n' ≤ pageN [30] rs := g1
    omega
  · obtain ⟨q1, q2, q3, q4⟩ := allL_in 1 1 (by omega) L e2
    obtain ⟨y, rfl⟩ : ∃ y, L = [y] := List.length_eq_one_iff.1 q1
    have q5 := q4 y (by simp)
    obtain ⟨c, rfl⟩ : ∃ c : Nat, y = (c : Int) := ⟨y.toNat, by omega⟩
    by_cases hc : c < 30
    · have g1 := f4 _ (in_allL2 (c := c) (d := 30) (by omega) hc (by omega))
      have g2 := page_le (S := [(c : Int)]) (S' := [(c : Int), 30]) hr (fun k k1 k2 => way_more (S := [(c : Int)]) 30 (by omega) (by omega))
      have g3 : n' ≤ pageN [(c : Int), 30] rs := g1
      omega
    · have e : c = 30 := by omega
      subst e
      have g1 := f4 _ (in_allL2 (c := 29) (d := 30) (by omega) (by omega) (by omega))
      have g2 := page_le (S := [30]) (S' := [29, 30]) hr (fun k k1 k2 => way_29 k1 k2)
      have g3 : n' ≤ pageN [29, 30] rs := g1
      have g4 : n = pageN [30] rs := e3
      omega
end Go.Proofs.Ytijelimpkcnbjaa

/- A row that is drawn. -/
namespace Go.Proofs.Ytijelimpkcnbjaa
open Go.RowKit Go.ChangeShapes Go.WideShapes Go.Deep
set_option linter.unusedVariables false
set_option linter.unusedSimpArgs false

def okBs (O : List UInt8) : Prop := ∀ b ∈ O, 32 ≤ b.toNat ∧ b.toNat ≤ 126
theorem ok_snoc {O : List UInt8} {b : UInt8} (h : okBs O) (hb : 32 ≤ b.toNat ∧ b.toNat ≤ 126) : okBs (O ++ [b]) := fun x hx => by
  rcases List.mem_append.1 hx with h1 | h1
  · exact h x h1
  · rw [List.mem_singleton.1 h1]; exact hb
theorem rowB_mk {O : List UInt8} (hl : O.length ≤ 30) (h : okBs O) (he : O = [] ∨ ∃ P b, O = P ++ [b] ∧ b.toNat ≠ 32) : rowB ⟨O.toArray⟩ = true := by
  have hsz : (⟨O.toArray⟩ : ByteArray).size = O.length := by simp [ByteArray.size]
  have h1 : bytesIn 32 126 ⟨O.toArray⟩ = true := by
    rw [bytesIn]
    simp only [List.all_eq_true]
    intro b hb
    have := h b (by simpa using hb)
    simp [this.1, this.2]
  rw [rowB, hsz, h1, decide_eq_true (by omega : (O.length : Int) ≤ 30)]
  rcases he with rfl | ⟨P, b, rfl, hb⟩
  · rfl
  · have h2 : bAt ⟨(P ++ [b]).toArray⟩ ((P ++ [b]).length - 1) = b := by
      simp [bAt]
    rw [h2, decide_eq_false hb]
    simp
theorem drawn_fin {r N : Nat} {w x y : World} (hb : Below w.heap.size w x) (h : Drawn r N x y) (hr : w.heap.size ≤ r) (hN : w.heap.size ≤ N) : Below w.heap.size w y :=
  hb.trans ⟨h.os, h.tape, h.output, h.size, fun k hk => h.block k (by omega) (by omega)⟩
set_option maxRecDepth 100000 in
set_option maxHeartbeats 3200000 in
theorem a2row_any (A : Option Addr) (n c : Nat) (xs : List Int) (w : World) (hn : n ≤ maxLen) (h : Bytes w A n xs) (hg : ∀ x ∈ xs, byteGood x) :
    Calls Try.prog 6 #[.slice A n c] w fun e w' => ∃ s, e = .returned (.string s) ∧ rowB s = true ∧ Below w.heap.size w w' := by
  obtain ⟨i0, hi, hz0, hz1, hz2⟩ := info_parts Try.infoByt
  have hfr := Lib.hid (from_any A n c xs w hn h hg)
  clear h hg
  go_enter Try.func6, Try.ntmps6
  go_wp2_with fail
  refine hfr.out.mono ?_
  rintro e w1 ⟨rfl, hs1, hb1⟩
  have hr : w.heap.size < w1.heap.size := hs1.lt
  have hb10 := Lib.hid hb1
  have hbb := below_a1 w1 (.cells #[] 5)
  have hs1' := hs1.below hbb
  have hd1 := Lib.hid ((Drawn.refl w.heap.size w1.heap.size w1).below hbb (Nat.le_refl _))
  have hO1 := Lib.hid (byt_new w1)
  have hz1' := hbb.size
  have hpk := Lib.hid (pick_any w.heap.size 0 4 _ hs1' (by omega) (by omega))
  clear hs1 hbb hb1 hfr hs1'
  go_wp2_with fail
  refine hpk.out.mono ?_
  rintro e w2 ⟨z, rfl, z0, z1, z2, hs2, hg2⟩
  have hz4 := z1 (by omega)
  obtain ⟨k0, rfl⟩ : ∃ q : Nat, z = (q : Int) := ⟨z.toNat, by omega⟩
  have hO2 := Lib.hid (owns_past hO1.out hg2 hr)
  have hd2 := Lib.hid (hd1.out.pick hg2 hz1')
  have hz2' := hg2.size
  have hs2' := Lib.hid (hs2.mono (t' := 2 + 4 * (3 - k0)) (by omega))
  clear z1 z2 hs2 hg2 hpk hO1 hd1
  go_wp2
  go_loopw [4, 5, 6] (fun v k _ wr => ∃ (kk : Nat) (O : List UInt8), kk ≤ 3 ∧ k = .int .i64 (kk : Int) ∧ OByt wr w1.heap.size v O ∧ O.length ≤ 7 * (3 - kk) ∧ okBs O ∧ (O = [] ∨ ∃ P b, O = P ++ [b] ∧ b.toNat ≠ 32) ∧ SrcAt wr w.heap.size (2 + 4 * (3 - kk)) ∧ Drawn w.heap.size w1.heap.size w1 wr ∧ w1.heap.size ≤ wr.heap.size) (fun _ k _ _ => (intOf k).toNat)
  case atStart => exact ⟨k0, [], by omega, rfl, hO2.out, by simp, (fun b hb => by cases hb), .inl rfl, hs2'.out, hd2.out, by omega⟩
  case round =>
    rename World => wr
    obtain ⟨kk, O, hkk, rfl, hO, hlen, hok, hlast, hsr, hdr, hzr⟩ := hrel
    by_cases hlt : 0 < kk
    · have hk1 : (0 : Int) < (kk : Int) := by omega
      have hwk : IntKind.i64.wrap ((kk : Int) - 1) = ((kk - 1 : Nat) : Int) := by rw [IntWalk.i64_in _ (by omega)]; omega
      have hpk := Lib.hid (pick_any w.heap.size _ 7 wr hsr (by omega) (by omega))
      replace hok := Lib.hid hok
      replace hO := Lib.hid hO
      clear hlast hsr
      go_wp2_with fail
      refine hpk.out.mono ?_
      rintro e w2b ⟨z, rfl, z0, z1, z2, hs2b, hg2⟩
      have hz7 := z1 (by omega)
      obtain ⟨n0, rfl⟩ : ∃ q : Nat, z = (q : Int) := ⟨z.toNat, by omega⟩
      have hO2b := Lib.hid (owns_past hO.out hg2 hr)
      have hd2b := Lib.hid (hdr.pick hg2 hzr)
      have hz2b := hg2.size
      replace hs2b := Lib.hid hs2b
      clear z1 z2 hg2 hpk hO hdr
      go_wp2
      go_loopw [4, 6] (fun v k wi => ∃ (nn : Nat) (O2 : List UInt8), nn ≤ 6 ∧ k = .int .i64 (nn : Int) ∧ OByt wi w1.heap.size v O2 ∧ O2.length + nn ≤ 7 * (3 - kk) + 6 ∧ Hid (okBs O2) ∧ SrcAt wi w.heap.size (2 + 4 * (3 - kk) + 2) ∧ Drawn w.heap.size w1.heap.size w1 wi ∧ w1.heap.size ≤ wi.heap.size) (fun _ k _ => (intOf k).toNat)
      case atStart => exact ⟨n0, O, by omega, rfl, hO2b.out, by omega, hok, hs2b.out, hd2b.out, by omega⟩
      case round =>
        rename World => wi
        obtain ⟨nn, O2, hnn, rfl, hOi, hlen2, hok2, hsi, hdi, hzi⟩ := hrel
        by_cases hln : 0 < nn
        · have hn1 : (0 : Int) < (nn : Int) := by omega
          have hwn : IntKind.i64.wrap ((nn : Int) - 1) = ((nn - 1 : Nat) : Int) := by rw [IntWalk.i64_in _ (by omega)]; omega
          replace hOi := Lib.hid hOi
          go_wp2_with (at_builtin; refine wpList_append_own _ rfl _ _ 22 rfl w1.heap.size 5 i0 _ 1 1 Try.underlying22 hi hz0 hz1 hz2 rfl (by decide) _ _ _ rfl (hOi.out.alloc _) ⟨wi.heap.size, 0, none⟩ 1 1 [.int .u8 32] rfl rfl (news8 _ _ _) (byt_one _) (by unfold maxLen; omega) (by omega) (by simp; omega) ?_)
          intro vq wq hownq hgrq hnilq
          have hgqq := grown_trans (grown_below (below_a1 wi _) _) hgrq
          have hge := fun j hj => owns_ge8 (g := j) hOi.out hj
          have hOq : Hid (OByt wq w1.heap.size vq (O2 ++ [32])) := Lib.hid (by
            show wq.ownsRow _ _ _ _ _ _
            rw [byt_add O2 32 32 rfl, List.length_append]; exact hownq)
          have hsq := Lib.hid (hsi.grownO hgqq (fun q hq => by have := hge q hq; omega))
          have hdq := Lib.hid (hdi.youngO hgqq (by omega) (fun q hq => by have := hge q hq; omega))
          have hszq := hgqq.size
          have hall := Lib.hid (ok_snoc hok2.out (b := 32) (by decide))
          clear hownq hgrq hnilq hgqq hOi hsi hdi
          go_wp2
          go_roundw
          case rel => exact ⟨nn - 1, O2 ++ [32], by omega, by go_num, hOq.out, by rw [List.length_append]; simp only [List.length_cons, List.length_nil]; omega, hall, hsq.out, hdq.out, by omega⟩
          case measure => simp [intOf]; omega
        · obtain rfl : nn = 0 := by omega
          have hpk := Lib.hid (pick_any w.heap.size _ 6 wi hsi (by omega) (by omega))
          replace hOi := Lib.hid hOi
          clear hsi
          go_wp2_with fail
          refine hpk.out.mono ?_
          rintro e w3 ⟨z, rfl, z0, z1, z2, hs3, hg3⟩
          have hz6 := z1 (by omega)
          have hO3 := Lib.hid (owns_past hOi.out hg3 hr)
          have hd3 := Lib.hid (hdi.pick hg3 hzi)
          have hz3 := hg3.size
          replace hs3 := Lib.hid hs3
          have h6 : z = 0 ∨ z = 1 ∨ z = 2 ∨ z = 3 ∨ z = 4 ∨ z = 5 := by omega
          clear z0 z1 z2 hg3 hpk hOi hdi hz6
          rcases h6 with rfl | rfl | rfl | rfl | rfl | rfl
          · -- the byte 97
            go_wp2_with (at_builtin; refine wpList_append_own _ rfl _ _ 22 rfl w1.heap.size 5 i0 _ 1 1 Try.underlying22 hi hz0 hz1 hz2 rfl (by decide) _ _ _ rfl (hO3.out.alloc _) ⟨w3.heap.size, 0, none⟩ 1 1 [.int .u8 97] rfl rfl (news8 _ _ _) (byt_one _) (by unfold maxLen; omega) (by omega) (by simp; omega) ?_)
            intro vq wq hownq hgrq hnilq
            have hgqq := grown_trans (grown_below (below_a1 w3 _) _) hgrq
            have hge := fun j hj => owns_ge8 (g := j) hO3.out hj
            have hOq : Hid (OByt wq w1.heap.size vq (O2 ++ [97])) := Lib.hid (by
              show wq.ownsRow _ _ _ _ _ _
              rw [byt_add O2 97 97 rfl, List.length_append]; exact hownq)
            have hsq := Lib.hid ((hs3.out.grownO hgqq (fun q hq => by have := hge q hq; omega)).mono (t' := 2 + 4 * (3 - (kk - 1))) (by omega))
            have hdq := Lib.hid (hd3.out.youngO hgqq (by omega) (fun q hq => by have := hge q hq; omega))
            have hszq := hgqq.size
            have hall := Lib.hid (ok_snoc hok2.out (b := 97) (by decide))
            clear hownq hgrq hnilq hgqq hO3 hs3 hd3
            go_wp2
            go_roundw
            case rel => exact ⟨kk - 1, O2 ++ [97], by omega, by go_num, hOq.out, by rw [List.length_append]; simp only [List.length_cons, List.length_nil]; omega, hall.out, .inr ⟨O2, 97, rfl, by decide⟩, hsq.out, hdq.out, by omega⟩
            case measure => simp [intOf]; omega
          · -- the byte 98
            go_wp2_with (at_builtin; refine wpList_append_own _ rfl _ _ 22 rfl w1.heap.size 5 i0 _ 1 1 Try.underlying22 hi hz0 hz1 hz2 rfl (by decide) _ _ _ rfl (hO3.out.alloc _) ⟨w3.heap.size, 0, none⟩ 1 1 [.int .u8 98] rfl rfl (news8 _ _ _) (byt_one _) (by unfold maxLen; omega) (by omega) (by simp; omega) ?_)
            intro vq wq hownq hgrq hnilq
            have hgqq := grown_trans (grown_below (below_a1 w3 _) _) hgrq
            have hge := fun j hj => owns_ge8 (g := j) hO3.out hj
            have hOq : Hid (OByt wq w1.heap.size vq (O2 ++ [98])) := Lib.hid (by
              show wq.ownsRow _ _ _ _ _ _
              rw [byt_add O2 98 98 rfl, List.length_append]; exact hownq)
            have hsq := Lib.hid ((hs3.out.grownO hgqq (fun q hq => by have := hge q hq; omega)).mono (t' := 2 + 4 * (3 - (kk - 1))) (by omega))
            have hdq := Lib.hid (hd3.out.youngO hgqq (by omega) (fun q hq => by have := hge q hq; omega))
            have hszq := hgqq.size
            have hall := Lib.hid (ok_snoc hok2.out (b := 98) (by decide))
            clear hownq hgrq hnilq hgqq hO3 hs3 hd3
            go_wp2
            go_roundw
            case rel => exact ⟨kk - 1, O2 ++ [98], by omega, by go_num, hOq.out, by rw [List.length_append]; simp only [List.length_cons, List.length_nil]; omega, hall.out, .inr ⟨O2, 98, rfl, by decide⟩, hsq.out, hdq.out, by omega⟩
            case measure => simp [intOf]; omega
          · -- the byte 99
            go_wp2_with (at_builtin; refine wpList_append_own _ rfl _ _ 22 rfl w1.heap.size 5 i0 _ 1 1 Try.underlying22 hi hz0 hz1 hz2 rfl (by decide) _ _ _ rfl (hO3.out.alloc _) ⟨w3.heap.size, 0, none⟩ 1 1 [.int .u8 99] rfl rfl (news8 _ _ _) (byt_one _) (by unfold maxLen; omega) (by omega) (by simp; omega) ?_)
            intro vq wq hownq hgrq hnilq
            have hgqq := grown_trans (grown_below (below_a1 w3 _) _) hgrq
            have hge := fun j hj => owns_ge8 (g := j) hO3.out hj
            have hOq : Hid (OByt wq w1.heap.size vq (O2 ++ [99])) := Lib.hid (by
              show wq.ownsRow _ _ _ _ _ _
              rw [byt_add O2 99 99 rfl, List.length_append]; exact hownq)
            have hsq := Lib.hid ((hs3.out.grownO hgqq (fun q hq => by have := hge q hq; omega)).mono (t' := 2 + 4 * (3 - (kk - 1))) (by omega))
            have hdq := Lib.hid (hd3.out.youngO hgqq (by omega) (fun q hq => by have := hge q hq; omega))
            have hszq := hgqq.size
            have hall := Lib.hid (ok_snoc hok2.out (b := 99) (by decide))
            clear hownq hgrq hnilq hgqq hO3 hs3 hd3
            go_wp2
            go_roundw
            case rel => exact ⟨kk - 1, O2 ++ [99], by omega, by go_num, hOq.out, by rw [List.length_append]; simp only [List.length_cons, List.length_nil]; omega, hall.out, .inr ⟨O2, 99, rfl, by decide⟩, hsq.out, hdq.out, by omega⟩
            case measure => simp [intOf]; omega
          · -- the byte 39
            go_wp2_with (at_builtin; refine wpList_append_own _ rfl _ _ 22 rfl w1.heap.size 5 i0 _ 1 1 Try.underlying22 hi hz0 hz1 hz2 rfl (by decide) _ _ _ rfl (hO3.out.alloc _) ⟨w3.heap.size, 0, none⟩ 1 1 [.int .u8 39] rfl rfl (news8 _ _ _) (byt_one _) (by unfold maxLen; omega) (by omega) (by simp; omega) ?_)
            intro vq wq hownq hgrq hnilq
            have hgqq := grown_trans (grown_below (below_a1 w3 _) _) hgrq
            have hge := fun j hj => owns_ge8 (g := j) hO3.out hj
            have hOq : Hid (OByt wq w1.heap.size vq (O2 ++ [39])) := Lib.hid (by
              show wq.ownsRow _ _ _ _ _ _
              rw [byt_add O2 39 39 rfl, List.length_append]; exact hownq)
            have hsq := Lib.hid ((hs3.out.grownO hgqq (fun q hq => by have := hge q hq; omega)).mono (t' := 2 + 4 * (3 - (kk - 1))) (by omega))
            have hdq := Lib.hid (hd3.out.youngO hgqq (by omega) (fun q hq => by have := hge q hq; omega))
            have hszq := hgqq.size
            have hall := Lib.hid (ok_snoc hok2.out (b := 39) (by decide))
            clear hownq hgrq hnilq hgqq hO3 hs3 hd3
            go_wp2
            go_roundw
            case rel => exact ⟨kk - 1, O2 ++ [39], by omega, by go_num, hOq.out, by rw [List.length_append]; simp only [List.length_cons, List.length_nil]; omega, hall.out, .inr ⟨O2, 39, rfl, by decide⟩, hsq.out, hdq.out, by omega⟩
            case measure => simp [intOf]; omega
          · -- the byte 35
            go_wp2_with (at_builtin; refine wpList_append_own _ rfl _ _ 22 rfl w1.heap.size 5 i0 _ 1 1 Try.underlying22 hi hz0 hz1 hz2 rfl (by decide) _ _ _ rfl (hO3.out.alloc _) ⟨w3.heap.size, 0, none⟩ 1 1 [.int .u8 35] rfl rfl (news8 _ _ _) (byt_one _) (by unfold maxLen; omega) (by omega) (by simp; omega) ?_)
            intro vq wq hownq hgrq hnilq
            have hgqq := grown_trans (grown_below (below_a1 w3 _) _) hgrq
            have hge := fun j hj => owns_ge8 (g := j) hO3.out hj
            have hOq : Hid (OByt wq w1.heap.size vq (O2 ++ [35])) := Lib.hid (by
              show wq.ownsRow _ _ _ _ _ _
              rw [byt_add O2 35 35 rfl, List.length_append]; exact hownq)
            have hsq := Lib.hid ((hs3.out.grownO hgqq (fun q hq => by have := hge q hq; omega)).mono (t' := 2 + 4 * (3 - (kk - 1))) (by omega))
            have hdq := Lib.hid (hd3.out.youngO hgqq (by omega) (fun q hq => by have := hge q hq; omega))
            have hszq := hgqq.size
            have hall := Lib.hid (ok_snoc hok2.out (b := 35) (by decide))
            clear hownq hgrq hnilq hgqq hO3 hs3 hd3
            go_wp2
            go_roundw
            case rel => exact ⟨kk - 1, O2 ++ [35], by omega, by go_num, hOq.out, by rw [List.length_append]; simp only [List.length_cons, List.length_nil]; omega, hall.out, .inr ⟨O2, 35, rfl, by decide⟩, hsq.out, hdq.out, by omega⟩
            case measure => simp [intOf]; omega
          · -- the byte 62
            go_wp2_with (at_builtin; refine wpList_append_own _ rfl _ _ 22 rfl w1.heap.size 5 i0 _ 1 1 Try.underlying22 hi hz0 hz1 hz2 rfl (by decide) _ _ _ rfl (hO3.out.alloc _) ⟨w3.heap.size, 0, none⟩ 1 1 [.int .u8 62] rfl rfl (news8 _ _ _) (byt_one _) (by unfold maxLen; omega) (by omega) (by simp; omega) ?_)
            intro vq wq hownq hgrq hnilq
            have hgqq := grown_trans (grown_below (below_a1 w3 _) _) hgrq
            have hge := fun j hj => owns_ge8 (g := j) hO3.out hj
            have hOq : Hid (OByt wq w1.heap.size vq (O2 ++ [62])) := Lib.hid (by
              show wq.ownsRow _ _ _ _ _ _
              rw [byt_add O2 62 62 rfl, List.length_append]; exact hownq)
            have hsq := Lib.hid ((hs3.out.grownO hgqq (fun q hq => by have := hge q hq; omega)).mono (t' := 2 + 4 * (3 - (kk - 1))) (by omega))
            have hdq := Lib.hid (hd3.out.youngO hgqq (by omega) (fun q hq => by have := hge q hq; omega))
            have hszq := hgqq.size
            have hall := Lib.hid (ok_snoc hok2.out (b := 62) (by decide))
            clear hownq hgrq hnilq hgqq hO3 hs3 hd3
            go_wp2
            go_roundw
            case rel => exact ⟨kk - 1, O2 ++ [62], by omega, by go_num, hOq.out, by rw [List.length_append]; simp only [List.length_cons, List.length_nil]; omega, hall.out, .inr ⟨O2, 62, rfl, by decide⟩, hsq.out, hdq.out, by omega⟩
            case measure => simp [intOf]; omega
    · obtain rfl : kk = 0 := by omega
      have hrow := Lib.hid (rowB_mk (O := O) (by omega) hok hlast)
      have hcv := byt_conv hO
      have hfin := Lib.hid (drawn_fin hb10.out hdr (Nat.le_refl _) (by omega))
      clear hok hlast hsr hdr hO
      go_wp2
      go_ret
      exact ⟨_, rfl, hrow.out, hfin.out⟩
end Go.Proofs.Ytijelimpkcnbjaa

/- The law on the best stops as one call: for every input it returns true. -/
namespace Go.Proofs.Ytijelimpkcnbjaa
open Go.RowKit Go.ChangeShapes Go.WideShapes Go.Deep
set_option linter.unusedVariables false
set_option linter.unusedSimpArgs false

theorem a2long_two (A B : Option Addr) (n c m d : Nat) (w : World) (hn : n ≤ maxLen) (hm : m ≤ maxLen) (v : Bool) (hv : (decide (3000 < n) || decide (3000 < m)) = v) :
    Calls Try.prog 5 #[.slice A n c, .slice B m d] w fun e w' => e = .returned (.bool v) ∧ w = w' := by
  unfold maxLen at hn hm
  by_cases h1 : 3000 < n
  · have g1 : decide ((3000 : Int) < (n : Int)) = true := decide_eq_true (by omega)
    have hr : Hid (v = true) := Lib.hid (by rw [← hv, decide_eq_true h1, Bool.true_or])
    clear hv
    go_enter Try.func5, Try.ntmps5
    go_wp2
    go_ret
    exact ⟨ret_bo hr.out.symm, rfl⟩
  · have g1 : decide ((3000 : Int) < (n : Int)) = false := decide_eq_false (by omega)
    have hr : Hid (v = decide ((3000 : Int) < (m : Int))) := Lib.hid (by
      rw [← hv, decide_eq_false h1, Bool.false_or]
      apply decide_eq_decide.2
      omega)
    clear hv
    go_enter Try.func5, Try.ntmps5
    go_wp2
    go_ret
    exact ⟨ret_bo hr.out.symm, rfl⟩
noncomputable def lastB (rs : List ByteArray) : Nat → Int
  | 0 => -1
  | j + 1 => (bsV (bestS rs j)).2
theorem last_or {rs : List ByteArray} (hr : rs.all rowB = true) {j : Nat} (hj : j ≤ 2) {L : List Int} {N : Nat} (h : bestS rs j = some (L, N)) : lastB rs j = -1 ∨ ∃ K : Nat, lastB rs j = (K : Int) ∧ N ≤ K := by
  cases j with
  | zero => exact .inl rfl
  | succ j' =>
    obtain ⟨L', K, f1, f2, f3, f4⟩ := best_is rs (m := j') (by omega)
    exact .inr ⟨K, by rw [lastB, f1]; rfl, best_more hr (m := j') (by omega) f1 h⟩
set_option maxRecDepth 100000 in
set_option maxHeartbeats 1600000 in
theorem fnBestStops_any (A0 : Option Addr) (n0 c0 : Nat) (xs0 : List Int) (A1 : Option Addr) (n1 c1 : Nat) (xs1 : List Int) (w : World) (h0 : n0 ≤ maxLen ∧ Bytes w A0 n0 xs0 ∧ ∀ x ∈ xs0, byteGood x) (h1 : n1 ≤ maxLen ∧ Bytes w A1 n1 xs1 ∧ ∀ x ∈ xs1, byteGood x) :
    Calls Try.prog 3 #[.slice A0 n0 c0, .slice A1 n1 c1] w fun e w' => e = .returned (.bool true) ∧ Below w.heap.size w w' := by
  obtain ⟨hm0, P0, hg0⟩ := h0
  obtain ⟨hm1, P1, hg1⟩ := h1
  have hlong := a2long_two A0 A1 n0 c0 n1 c1 w hm0 hm1 _ rfl
  have hr1 := Lib.hid (a2row_any A0 n0 c0 xs0 w hm0 P0 hg0)
  cases hlv : (decide (3000 < n0) || decide (3000 < n1)) with
  | true =>
    rw [hlv] at hlong
    replace hlong := Lib.hid hlong
    clear hlv hr1 hg0 hg1 P0 P1
    go_enter Try.func3, Try.ntmps3
    go_wp2_with fail
    refine hlong.out.mono ?_
    rintro e w' ⟨rfl, rfl⟩
    go_wp2
    go_ret
    exact ⟨rfl, Below.refl _ _⟩
  | false =>
    rw [hlv] at hlong
    replace hlong := Lib.hid hlong
    clear hlv
    go_enter Try.func3, Try.ntmps3
    go_wp2_with fail
    refine hlong.out.mono ?_
    rintro e w' ⟨rfl, rfl⟩
    go_wp2_with fail
    refine hr1.out.mono ?_
    rintro e w1 ⟨a, rfl, hra, hb1⟩
    have hr2 := Lib.hid (a2row_any A1 n1 c1 xs1 w1 hm1 (P1.below hb1) hg1)
    clear hr1 hlong P0 P1 hg0 hg1
    go_wp2_with fail
    refine hr2.out.mono ?_
    rintro e w2 ⟨b, rfl, hrb, hb2⟩
    have hb02 := hb1.step hb2
    have hb03 := Lib.hid (hb02.step (below_a1 w2 (.cells #[.string a, .string b] 9)))
    have hS := Lib.hid (strs_lit w2 [a, b] 9 2 rfl)
    have hz2 := hb02.size
    have hall : Hid ([a, b].all rowB = true) := Lib.hid (by simp [hra, hrb])
    have hgs : Hid (∀ x ∈ [a, b], x.size ≤ maxLen) := Lib.hid (fun x hx => by
      have := rowB_size (List.all_eq_true.1 hall.out x hx)
      unfold maxLen
      omega)
    have hrc : Hid (rowsC ([a, b] : List ByteArray).length [a, b] = 0) := Lib.hid (by rw [rowsC, if_neg (by simp), hall.out, if_pos rfl])
    have hsz3 : (w2.alloc (.cells #[.string a, .string b] 9)).heap.size = w2.heap.size + 1 := by simp
    have hlt3 : Hid (Strs (w2.alloc (.cells #[.string a, .string b] 9)) (some ⟨w2.heap.size, 0, none⟩) 2 [a, b]) := hS
    clear hr2 hra hrb hb1 hb2 hb02 hS
    go_wp2
    go_loopw [6, 7, 8, 9, 10, 11, 12] (fun last many _ _ _ _ _ wr => ∃ j : Nat, j ≤ 3 ∧ many = .int .i64 (j : Int) ∧ last = .int .i64 (lastB [a, b] j) ∧ Below (w2.heap.size + 1) (w2.alloc (.cells #[.string a, .string b] 9)) wr) (fun _ many _ _ _ _ _ _ => 3 - (intOf many).toNat)
    case atStart => exact ⟨0, by omega, rfl, rfl, Below.refl _ _⟩
    case round =>
      rename World => wr
      obtain ⟨j, hj, rfl, rfl, hbr⟩ := hrel
      have hszr := hbr.size
      rw [hsz3] at hszr
      by_cases hlt : j ≤ 2
      · have hj2 : (j : Int) ≤ 2 := by omega
        have hwj : IntKind.i64.wrap ((j : Int) + 1) = ((j + 1 : Nat) : Int) := by rw [IntWalk.i64_in _ (by omega)]; omega
        obtain ⟨L, N, e1, e2, e3, e4⟩ := best_is [a, b] (m := j) (by omega)
        have hbr0 : Below (w2.alloc (.cells #[.string a, .string b] 9)).heap.size (w2.alloc (.cells #[.string a, .string b] 9)) wr := by rw [hsz3]; exact hbr
        have hSr := hlt3.out.below hbr0
        have hbest : bestR [a, b] (j : Int) = (L, (N : Int), 0) := by
          rw [bestR_0 hrc.out (inR_iff.2 ⟨by omega, hj2⟩), Int.toNat_natCast, e1]
          rfl
        have hbs := Lib.hid (bsW11 (some ⟨w2.heap.size, 0, none⟩) 2 2 [a, b] (j : Int) wr hSr (by omega) hgs.out hbest)
        have hst := allL_st hlt e2
        obtain ⟨q1, q2, q3, q4⟩ := allL_in j 1 (by omega) L e2
        have hgL : ∀ x ∈ L, intGood x := fun x hx => by
          have := q4 x hx
          show (Lit.int .i64 x).wf = true
          rw [← IntWalk.wrap64_in x (by omega)]
          exact wrap64_wf _
        have hpgr : pgR L [a, b] = ((N : Int), 0) := by rw [pgR_0 hst hrc.out, ← e3]
        have hpg := Lib.hid (fun As ns cs (W : World) (hI : Ints W As ns L) (hn : ns ≤ 1048576) (hW : Strs W (some ⟨w2.heap.size, 0, none⟩) 2 [a, b]) => pgW11 As ns cs L (some ⟨w2.heap.size, 0, none⟩) 2 2 [a, b] W hI hn hW (by omega) hgs.out hpgr)
        have hvs := Lib.hid (fun As ns cs (W : World) (hI : Ints W As ns L) (hn : ns ≤ 1048576) => by have h9 := vs11_spec As ns cs L W hI hn hgL; rw [hst] at h9; exact h9)
        have hnext : Hid (lastB [a, b] (j + 1) = (N : Int)) := Lib.hid (by rw [lastB, e1]; rfl)
        have hlastc : Hid (lastB [a, b] j = -1 ∨ ∃ K : Nat, lastB [a, b] j = (K : Int) ∧ N ≤ K) := Lib.hid (last_or hall.out hlt e1)
        replace hSr := Lib.hid hSr
        replace q1 := Lib.hid q1
        generalize lastB [a, b] j = lst at *
        clear e1 e2 e3 e4 q2 q3 q4 hst hbest hpgr hbr0
        have g5 : ((j : Int) != (j : Int)) = false := by simp
        have g6 : ((N : Int) != (N : Int)) = false := by simp
        rcases hlastc.out with rfl | ⟨K, rfl, hNK⟩
        · go_wp2_with fail
          refine hbs.out.mono ?_
          rintro e w4 ⟨As, ns, cs, rfl, hns, hOs, hb4⟩
          have hnj : ns = j := by
            have h8 : L.length = ns := hOs.1
            have := q1.out
            omega
          subst hnj
          have hI4 : Ints w4 As ns L := ORow.srow hOs
          have hp4 := Lib.hid (hpg.out As ns cs w4 hI4 hns (hSr.out.below hb4))
          have hI4' := Lib.hid hI4
          clear hbs hpg hOs hI4
          go_wp2_with fail
          refine hp4.out.mono ?_
          rintro e w5 ⟨rfl, hb5⟩
          have hv5 := Lib.hid (hvs.out As ns cs w5 (hI4'.out.below hb5) hns)
          have hb45 := Lib.hid (hb4.step hb5)
          clear hp4 hvs hb4 hb5 hI4'
          go_wp2_with (go_at_call 9; refine hv5.out.mono ?_; rintro e w6 ⟨rfl, hb6⟩)
          have hb06 := Lib.hid (hbr.trans ((hb45.out.step hb6).mono hszr))
          clear hb6 hb45 hv5
          go_roundw
          case rel => exact ⟨ns + 1, by omega, by go_num, by rw [hnext.out], hb06.out⟩
          case measure => simp [intOf]; omega
        · have g7 : (0 : Int) ≤ (K : Int) := Int.natCast_nonneg _
          have g8 : ¬ (K : Int) < (N : Int) := by omega
          go_wp2_with fail
          refine hbs.out.mono ?_
          rintro e w4 ⟨As, ns, cs, rfl, hns, hOs, hb4⟩
          have hnj : ns = j := by
            have h8 : L.length = ns := hOs.1
            have := q1.out
            omega
          subst hnj
          have hI4 : Ints w4 As ns L := ORow.srow hOs
          have hp4 := Lib.hid (hpg.out As ns cs w4 hI4 hns (hSr.out.below hb4))
          have hI4' := Lib.hid hI4
          clear hbs hpg hOs hI4
          go_wp2_with fail
          refine hp4.out.mono ?_
          rintro e w5 ⟨rfl, hb5⟩
          have hv5 := Lib.hid (hvs.out As ns cs w5 (hI4'.out.below hb5) hns)
          have hb45 := Lib.hid (hb4.step hb5)
          clear hp4 hvs hb4 hb5 hI4'
          go_wp2_with (go_at_call 9; refine hv5.out.mono ?_; rintro e w6 ⟨rfl, hb6⟩)
          have hb06 := Lib.hid (hbr.trans ((hb45.out.step hb6).mono hszr))
          clear hb6 hb45 hv5
          go_roundw
          case rel => exact ⟨ns + 1, by omega, by go_num, by rw [hnext.out], hb06.out⟩
          case measure => simp [intOf]; omega
      · obtain rfl : j = 3 := by omega
        go_wp2
        go_ret
        exact ⟨rfl, hb03.out.trans (hbr.mono (by omega))⟩
end Go.Proofs.Ytijelimpkcnbjaa
