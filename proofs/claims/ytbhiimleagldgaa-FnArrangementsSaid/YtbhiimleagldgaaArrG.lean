/- ArrangeBound: the model's function and the program's. -/
import Derived.Test.YtbhiimleagldgaaArrF
namespace Go.Proofs.Ytbhiimleagldgaa
open Go.RowKit
set_option linter.unusedVariables false
set_option linter.unusedSimpArgs false

/-- What a pair counts at least. -/
def leastI (b : BasketD) (i k : Nat) : Int := if i = k then b.rise + b.fall else b.clear
theorem leastI_range {b : BasketD} (h : basketOk b = true) (i k : Nat) : 0 ≤ leastI b i k ∧ leastI b i k ≤ 200 := by
  have := basketOk_iff.1 h
  unfold leastI
  split <;> omega
def boundRow (b : BasketD) (xs : List Int) (i : Nat) (m : Nat) : Int := sumTo (fun k => xs.getD k 0 * leastI b i k) m
def boundTo (b : BasketD) (xss : List (List Int)) (m : Nat) : Int := sumTo (fun i => boundRow b (xss.getD i []) i xss.length) m
def boundOf (b : BasketD) (xss : List (List Int)) : Int × Int := if (basketOk b && pairsOk xss) = true then (boundTo b xss xss.length, 0) else (0, 1)
theorem boundRow_succ {b : BasketD} {xs : List Int} {i m : Nat} {x : Int} (hx : xs[m]? = some x) : boundRow b xs i (m + 1) = boundRow b xs i m + x * leastI b i m := by
  have h : boundRow b xs i (m + 1) = boundRow b xs i m + xs.getD m 0 * leastI b i m := rfl
  rw [h, getD_of' hx]
theorem boundTo_succ {b : BasketD} {xss : List (List Int)} {m : Nat} {xs : List Int} (hx : xss[m]? = some xs) : boundTo b xss (m + 1) = boundTo b xss m + boundRow b xs m xss.length := by
  have h : boundTo b xss (m + 1) = boundTo b xss m + boundRow b (xss.getD m []) m xss.length := rfl
  rw [h, getD_of' hx]
theorem lterm_range {b : BasketD} (hb : basketOk b = true) {x : Int} (h0 : 0 ≤ x) (h1 : x ≤ 1000) (i k : Nat) : 0 ≤ x * leastI b i k ∧ x * leastI b i k ≤ 200000 := by
  obtain ⟨h2, h3⟩ := leastI_range hb i k
  refine ⟨Int.mul_nonneg h0 (by omega), ?_⟩
  have h4 : x * leastI b i k ≤ 1000 * 200 := Int.mul_le_mul h1 h3 (by omega) (by omega)
  omega
theorem boundRow_range {b : BasketD} (hb : basketOk b = true) {xs : List Int} (hx : ∀ (k : Nat) (x : Int), xs[k]? = some x → 0 ≤ x ∧ x ≤ 1000) (i m : Nat) : 0 ≤ boundRow b xs i m ∧ boundRow b xs i m ≤ m * 200000 := by
  refine sumTo_range fun k hk => ?_
  refine lterm_range hb ?_ ?_ _ _ <;>
  · cases h : xs[k]? with
    | none => simp [List.getD, h]
    | some x => have := hx k x h; simp [List.getD, h]; omega
theorem boundTo_range {b : BasketD} (hb : basketOk b = true) {xss : List (List Int)} (hp : pairsOk xss = true) (m : Nat) (hm : m ≤ 7) : 0 ≤ boundTo b xss m ∧ boundTo b xss m ≤ m * 1400000 := by
  obtain ⟨⟨h1, h2⟩, h3⟩ := pairsOk_iff.1 hp
  refine sumTo_range fun i hi => ?_
  have h : ∀ (k : Nat) (x : Int), (xss.getD i [])[k]? = some x → 0 ≤ x ∧ x ≤ 1000 := by
    cases h : xss[i]? with
    | none => simp [List.getD, h]
    | some xs => have := (h3 i xs h).2; simpa [List.getD, h] using this
  have := boundRow_range hb h i xss.length
  have h5 : (xss.length : Int) * 200000 ≤ 1400000 := by omega
  omega

set_option maxRecDepth 100000 in
set_option maxHeartbeats 3200000 in
theorem ab_impl (b : BasketD) (A : Option Addr) (n c : Nat) (xss : List (List Int)) (w : World) (hb : b.good) (h : IntSS w A n xss) (hn : n ≤ 1048576) (hx : ∀ xs ∈ xss, issGood xs) :
    Calls Try.prog 10 #[.agg #[.int .i64 b.bars, .int .i64 b.rise, .int .i64 b.fall, .int .i64 b.clear, .int .i64 b.near], .slice A n c] w fun e w' => e = .returned (.tuple #[.int .i64 (boundOf b xss).1, .int .i64 (boundOf b xss).2]) ∧ Below w.heap.size w w' := by
  generalize hr : boundOf b xss = r
  replace hr := Lib.hid hr.symm
  have hnew := Lib.hid (box_new w b 25)
  have hb0 := Lib.hid (below_a1 w (.cells #[.int .i64 b.bars, .int .i64 b.rise, .int .i64 b.fall, .int .i64 b.clear, .int .i64 b.near] 25))
  have hlen := Lib.hid h.len
  have hS := h.below hb0.out
  clear hb hx h
  cases h1 : basketOk b with
  | false =>
    have hres : Hid (r = (0, 1)) := Lib.hid (by rw [hr.out]; simp [boundOf, h1])
    have hc1 := Lib.hid (fun W => ok_impl b h1 W)
    clear h1 hr hnew
    go_enter Try.func10, Try.ntmps10
    go_wp2_with fail
    refine (hc1.out _).mono ?_
    rintro e w1 ⟨rfl, hb1⟩
    go_wp2
    go_ret2
    exact ⟨ret_i2 hres.out, hb0.out.step hb1⟩
  | true =>
    have hc1 := Lib.hid (fun W => ok_impl b h1 W)
    cases h2 : pairsOk xss with
    | false =>
      have hres : Hid (r = (0, 1)) := Lib.hid (by rw [hr.out]; simp [boundOf, h2])
      have hc2 := Lib.hid (fun W (hW : IntSS W A n xss) => ok5_impl A n c xss h2 W hW hn)
      clear h1 h2 hr hnew
      go_enter Try.func10, Try.ntmps10
      go_wp2_with fail
      refine (hc1.out _).mono ?_
      rintro e w1 ⟨rfl, hb1⟩
      go_wp2_with fail
      refine (hc2.out _ (hS.below hb1)).mono ?_
      rintro e w2 ⟨rfl, rfl⟩
      go_wp2
      go_ret2
      exact ⟨ret_i2 hres.out, hb0.out.step hb1⟩
    | true =>
      have hres : Hid (r = (boundTo b xss n, 0)) := Lib.hid (by rw [hr.out, ← hlen.out]; simp [boundOf, h1, h2])
      have hc2 := Lib.hid (fun W (hW : IntSS W A n xss) => ok5_impl A n c xss h2 W hW hn)
      obtain ⟨⟨n2, n7⟩, hrows0⟩ := pairsOk_iff.1 h2
      rw [hlen.out] at n2 n7 hrows0
      have hrows := Lib.hid hrows0
      clear hrows0
      have hct := Lib.hid (boundTo_range h1 h2)
      have hcr := Lib.hid (fun (xs : List Int) (hx : ∀ (k : Nat) (x : Int), xs[k]? = some x → 0 ≤ x ∧ x ≤ 1000) (i m : Nat) => boundRow_range h1 hx i m)
      have htr := Lib.hid (fun (x : Int) (h0 : 0 ≤ x) (h1' : x ≤ 1000) (i k : Nat) => lterm_range h1 h0 h1' i k)
      obtain ⟨_, ⟨r0, r1⟩, ⟨q0, q1⟩, ⟨p0, p1⟩, _⟩ := basketOk_iff.1 h1
      have hfl := Lib.hid (fun W => flight_impl b h1 W)
      clear h1 h2 hr
      go_enter Try.func10, Try.ntmps10
      go_wp2_with fail
      refine (hc1.out _).mono ?_
      rintro e w1 ⟨rfl, hb1⟩
      go_wp2_with fail
      refine (hc2.out _ (hS.below hb1)).mono ?_
      rintro e w2 ⟨rfl, rfl⟩
      have hbox := Lib.hid (hnew.out.step hb1)
      have hb2 := Lib.hid (hb0.out.step hb1)
      have hS2 := hS.below hb1
      clear hb1 hS hc1 hc2 hnew
      generalize hN : w.heap.size = N at *
      replace hN := Lib.hid hN
      go_wp2
      go_loopw [6, 21] (fun t i wr => ∃ k : Nat, k ≤ n ∧ i = .int .i64 k ∧ t = .int .i64 (boundTo b xss k) ∧ Below w1.heap.size w1 wr) (fun _ i _ => n - (intOf i).toNat)
      case atStart => exact ⟨0, by omega, rfl, rfl, Below.refl _ _⟩
      case round =>
        obtain ⟨k, hk, rfl, rfl, hbo⟩ := hrel
        rename World => wo
        by_cases hlt : k < n
        · have hSo := hS2.below hbo
          obtain ⟨ba, oa, R, m, cc, xs, rfl, hb, hx, f0, hI, hm⟩ := iss_at hSo hlt
          obtain ⟨rl, rb⟩ := hrows.out k xs hx.out
          have hmn : n = m := by rw [← rl, hI.1]
          subst hmn
          have hk0 : (0 : Int) ≤ (k : Int) := Int.natCast_nonneg _
          have hk1 : (k : Int) < (n : Int) := by omega
          have hbx := Lib.hid (hbox.out.step hbo)
          have hnxt : Hid (boundTo b xss (k + 1) = boundTo b xss k + boundRow b xs k n) := Lib.hid (by rw [boundTo_succ hx.out, hlen.out])
          have hrb := Lib.hid rb
          have hcT := hct.out k (by omega)
          clear rl rb
          generalize hTT : boundTo b xss k = TT at *
          replace hTT := Lib.hid hTT
          go_wp2
          go_loopw [6, 28] (fun t j wq => ∃ q : Nat, q ≤ n ∧ j = .int .i64 q ∧ t = .int .i64 (TT + boundRow b xs k q) ∧ Below wo.heap.size wo wq) (fun _ j _ => n - (intOf j).toNat)
          case atStart => exact ⟨0, by omega, rfl, by simp [boundRow, sumTo], Below.refl _ _⟩
          case round =>
            obtain ⟨q, hq, rfl, rfl, hbq⟩ := hrel
            rename World => wq
            have hcR := hcr.out xs hrb.out k q
            by_cases hltq : q < n
            · obtain ⟨bx, ox, x, rfl, hbx1, hxx, f1⟩ := int_at (hI.below hbq) hltq
              have f0' := cell_step f0 hbq
              obtain ⟨x0, x1⟩ := hrb.out q x hxx.out
              have hq0 : (0 : Int) ≤ (q : Int) := Int.natCast_nonneg _
              have hq1 : (q : Int) < (n : Int) := by omega
              have hnx2 : Hid (TT + boundRow b xs k (q + 1) = TT + boundRow b xs k q + x * leastI b k q) := Lib.hid (by rw [boundRow_succ hxx.out]; omega)
              obtain ⟨t0, t1⟩ := htr.out x x0 x1 k q
              generalize hRR : boundRow b xs k q = RR at *
              replace hRR := Lib.hid hRR
              obtain ⟨d0, d1, d2, d3, d4⟩ := hbx.out.step hbq
              clear f0
              by_cases hkq : k = q
              · have hle : leastI b k q = b.rise + b.fall := by rw [leastI, if_pos hkq]
                rw [hle] at t0 t1 hnx2
                obtain ⟨X, hX⟩ : ∃ X, x * (b.rise + b.fall) = X := ⟨_, rfl⟩
                rw [hX] at t0 t1 hnx2
                have s0 : IntKind.i64.wrap (b.rise + b.fall) = b.rise + b.fall := IntWalk.i64_in _ (by omega)
                have s1 : IntKind.i64.wrap (x * (b.rise + b.fall)) = X := by rw [← hX]; exact IntWalk.i64_in _ (by omega)
                have s2 : IntKind.i64.wrap (TT + RR + X) = TT + RR + X := IntWalk.i64_in _ (by omega)
                replace hX := Lib.hid hX
                subst hkq
                clear hle
                clear s0
                have hcall := Lib.hid (hfl.out wq)
                generalize b.rise + b.fall = W1 at *
                go_wp2_with fail
                refine (hcall.out).mono ?_
                rintro e w5 ⟨rfl, hb5⟩
                go_wp2
                clear s1 s2
                go_roundw
                case rel => exact ⟨k + 1, by omega, by go_num, by rw [hnx2.out], hbq.step hb5⟩
                case measure => simp [intOf]; omega
              · have hle : leastI b k q = b.clear := by rw [leastI, if_neg hkq]
                rw [hle] at t0 t1 hnx2
                obtain ⟨X, hX⟩ : ∃ X, x * b.clear = X := ⟨_, rfl⟩
                rw [hX] at t0 t1 hnx2
                have s1 : IntKind.i64.wrap (x * b.clear) = X := by rw [← hX]; exact IntWalk.i64_in _ (by omega)
                have s2 : IntKind.i64.wrap (TT + RR + X) = TT + RR + X := IntWalk.i64_in _ (by omega)
                replace hX := Lib.hid hX
                have e1 : (k == q) = false := beq_eq_false_iff_ne.2 hkq
                have e2 : ((k : Int) == (q : Int)) = false := beq_eq_false_iff_ne.2 (by omega)
                have e3 : (q == k) = false := beq_eq_false_iff_ne.2 (fun h => hkq h.symm)
                have e4 : ((q : Int) == (k : Int)) = false := beq_eq_false_iff_ne.2 (by omega)
                clear hle hkq
                go_wp2
                clear s1 s2
                go_roundw
                case rel => exact ⟨q + 1, by omega, by go_num, by rw [hnx2.out], hbq⟩
                case measure => simp [intOf]; omega
            · obtain rfl : q = n := by omega
              go_wp2
              go_roundw
              case rel => exact ⟨k + 1, by omega, by go_num, by rw [hnxt.out], hbo.step hbq⟩
              case measure => simp [intOf]; omega
        · obtain rfl : k = n := by omega
          go_wp2
          go_ret2
          obtain rfl := hN.out
          exact ⟨ret_i2 hres.out, hb2.out.step hbo⟩
end Go.Proofs.Ytbhiimleagldgaa
