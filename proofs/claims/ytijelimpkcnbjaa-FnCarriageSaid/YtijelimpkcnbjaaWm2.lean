/- The moves for all ways that are counted. -/
import Derived.Test.YtijelimpkcnbjaaWm1
import Derived.Test.YtijelimpkcnbjaaBf4
import Derived.Test.YtijelimpkcnbjaaMapRng
import Derived.Test.YtijelimpkcnbjaaTm9
namespace Go.Proofs.Ytijelimpkcnbjaa
open Go.RowKit Go.ChangeShapes Go.WideShapes Go.Deep Go.ChangeMaps Go.MapKept
set_option linter.unusedVariables false
set_option linter.unusedSimpArgs false

theorem wayP_30 {ps : List Int} {s t : Nat} (hs : s ≤ 30) (ht : t ≤ 30) : (wayP ps t s).length ≤ 30 := by
  obtain ⟨F, hF⟩ := isFar_ex ps (t := t) ht
  have hf := hF.far ht
  have h30 := far_30 ht hf.zero hf.step (a := s) hs
  have hl := way_len hf 31 s hs (by omega)
  have e : (wayP ps t s).length = (wayL ps (farP ps t) 31 s).length := rfl
  omega
noncomputable def wayN (ps : List Int) (k : Nat × Nat) : Nat := (wayP ps k.2 k.1).length
def decW (p : Value × Value) : (Nat × Nat) × Nat := match p with
  | (.agg ⟨[.int _ r, .int _ c]⟩, .int _ n) => ((r.toNat, c.toNat), n.toNat)
  | _ => ((0, 0), 0)
theorem decW_is (e : (Nat × Nat) × Nat) : decW (wayV e.1, .int .i64 (e.2 : Int)) = e := by
  obtain ⟨⟨b, r⟩, c⟩ := e
  simp [decW, wayV]
def sumW (f : Nat × Nat → Nat) : List (Value × Value) → Nat
  | [] => 0
  | x :: l => (decW x).2 * f (decW x).1 + sumW f l
theorem sumW_perm (f : Nat × Nat → Nat) {x y : List (Value × Value)} (h : x.Perm y) : sumW f x = sumW f y := by
  induction h with
  | nil => rfl
  | cons e _ ih => simp [sumW, ih]
  | swap e g l => simp only [sumW]; omega
  | trans _ _ ih1 ih2 => exact ih1.trans ih2
theorem sumW_vals (f : Nat × Nat → Nat) : ∀ S : List ((Nat × Nat) × Nat), sumW f ((valsN S).map fun x => (wayV x.1, x.2)) = sumN f S
  | [] => rfl
  | e :: S => by
    have ih := sumW_vals f S
    simp only [valsN, List.map_cons, sumW, sumN, List.sum_cons] at ih ⊢
    rw [ih, decW_is]
theorem valsN_snoc (S : List ((Nat × Nat) × Nat)) (e : (Nat × Nat) × Nat) : valsN (S ++ [e]) = valsN S ++ [(e.1, .int .i64 (e.2 : Int))] := by simp [valsN]
theorem sumN_snoc (f : Nat × Nat → Nat) (S : List ((Nat × Nat) × Nat)) (e : (Nat × Nat) × Nat) : sumN f (S ++ [e]) = sumN f S + e.2 * f e.1 := by simp [sumN]
theorem sumN_most {f : Nat × Nat → Nat} : ∀ {S : List ((Nat × Nat) × Nat)}, (∀ x ∈ S, x.2 ≤ 360 ∧ f x.1 ≤ 30) → sumN f S ≤ 10800 * S.length
  | [], _ => by simp [sumN]
  | x :: S, h => by
    have h1 := h x (by simp)
    have h2 := sumN_most (S := S) fun y hy => h y (by simp [hy])
    have h3 : x.2 * f x.1 ≤ 360 * 30 := Nat.mul_le_mul h1.1 h1.2
    simp only [sumN, List.map_cons, List.sum_cons, List.length_cons] at h2 ⊢
    omega
set_option maxRecDepth 100000 in
set_option maxHeartbeats 3200000 in
theorem mfW11 (bm : Nat) (l : List ((Nat × Nat) × Nat)) (A : Option Addr) (n c : Nat) (ps : List Int) (w : World) (hM : MapIs wayV w bm (valsN l)) (h : Ints w A n ps) (hn : n ≤ 6) (hst : stB ps = true) (htot : sumN (fun _ => 1) l ≤ 360) (hko : KeyOk l)
    {R : Nat} (hR : sumN (wayN ps) l = R) :
    Calls Try.prog 21 #[.map (some bm), .slice A n c] w fun e w' => e = .returned (.int .i64 (R : Int)) ∧ Below w.heap.size w w' := by
  have hc1 := Lib.hid (movesWith11 A n c ps w h hn)
  have hll : l.length ≤ 360 := Nat.le_trans hko.few htot
  have hone : Hid (∀ x ∈ l, x.1.1 ≤ 30 ∧ x.1.2 ≤ 30 ∧ x.2 ≤ 360) := Lib.hid fun x hx => ⟨(hko x hx).1, (hko x hx).2.1, Nat.le_trans (sum_one_le hx) htot⟩
  have hMl := hM.lt
  replace hst := Lib.hid hst
  replace hR := Lib.hid hR
  clear h hko htot
  go_enter Try.func21, Try.ntmps21
  go_wp2_with fail
  refine hc1.out.mono ?_
  rintro e w1 ⟨M, rfl, hMv, hb1⟩
  have hM1 := hM.below hb1 hMl
  have hs1 := hb1.size
  obtain ⟨wr0, hrun0, hrg0, hbr0, hsz0⟩ := hM1.range (P := Try.prog) (t := 42) Try.underlying42
  have hMl1 := hM1.lt
  generalize hI : w1.heap.size = wI at *
  have hwI : w.heap.size ≤ wI := by omega
  have hne : wI ≠ bm := by omega
  clear hM hM1 hc1
  go_wp2
  go_loopw [6, 7, 8] (fun v _ _ wr => ∃ S : List ((Nat × Nat) × Nat), v = .int .i64 (sumN (wayN ps) S : Int) ∧ Ranging wayV wr wI bm (valsN l) (valsN S) ∧ Hid (∀ e ∈ S, e ∈ l) ∧ Hid (Below wI w1 wr)) (fun _ _ _ wr => l.length - (wr.iterSeen wI).size)
  case atStart => exact ⟨[], rfl, hrg0, Lib.hid (fun x hx => by cases hx), Lib.hid hbr0⟩
  case round =>
    obtain ⟨S, rfl, hrg, hsub, hbr⟩ := hrel
    have hseen := Lib.hid hrg.seen
    rcases hrg.next (P := Try.prog) hne with ⟨hall, hdl, ⟨p, hp1, hp2⟩, hrun⟩ | ⟨k, v, w4, hkv, hdl, hrun, hent, hrg4, hgr4⟩
    · have hfin : Hid (sumN (wayN ps) S = R) := Lib.hid (by
        rw [← hR.out, ← sumW_vals, ← hp2, sumW_perm _ hp1, sumW_vals])
      clear hall hp1 hp2 hrg hne
      go_wp2
      go_ret
      exact ⟨by rw [← hfin.out]; rfl, hb1.step (by rw [hI]; exact hbr.out)⟩
    · have hb4 := Lib.hid (hbr.out.grown hgr4 (by rw [← hI]; exact hbr.out.size) (fun j hj => by cases hj; omega))
      have hIl4 := hrg4.lt.1
      obtain ⟨e0, he0, hke⟩ := List.mem_map.1 hkv
      simp only [Prod.mk.injEq] at hke
      obtain ⟨rfl, rfl⟩ := hke
      obtain ⟨b1, b2, b3⟩ := hone.out e0 he0
      have hs4 : Hid (∀ e ∈ S ++ [e0], e ∈ l) := Lib.hid fun x hx => by
        rcases List.mem_append.1 hx with h | h
        · exact hsub.out x h
        · simp only [List.mem_singleton] at h
          subst h
          exact he0
      have hmost : sumN (wayN ps) S ≤ 10800 * S.length := sumN_most fun x hx => by
        obtain ⟨c1, c2, c3⟩ := hone.out x (hsub.out x hx)
        exact ⟨c3, wayP_30 c1 c2⟩
      have hSl : S.length < l.length := by simpa [valsN] using hdl
      have hMs5 : Movs (w4.alloc (.cells #[.int .i64 (e0.1.1 : Int), .int .i64 (e0.1.2 : Int)] 48)) ps M := hMv.below (by rw [hI]; exact hb4.out.alloc (by rw [← hI]; exact hb4.out.size) _)
      have hw30 := wayP_30 (ps := ps) b1 b2
      obtain ⟨P, hP⟩ : ∃ P : ByteArray, (⟨(wayP ps e0.1.2 e0.1.1).toArray⟩ : ByteArray) = P := ⟨_, rfl⟩
      have hPs : P.size = wayN ps e0.1 := by rw [← hP]; rfl
      have hnx : Hid (sumN (wayN ps) (S ++ [e0]) = sumN (wayN ps) S + e0.2 * P.size) := Lib.hid (by rw [hPs]; exact sumN_snoc _ _ _)
      have hP30 : P.size ≤ 30 := by rw [hPs]; exact hw30
      have hd1 := Lib.hid (planMovs b1 b2 hst.out M _ hMs5 hP)
      have hpr : e0.2 * P.size ≤ 10800 := Nat.le_trans (Nat.mul_le_mul b3 hP30) (by omega)
      have hmul : ((e0.2 : Int) * (P.size : Int)) = ((e0.2 * P.size : Nat) : Int) := by rw [Int.natCast_mul]
      generalize hX : e0.2 * P.size = X at *
      have hmw : IntKind.i64.wrap ((e0.2 : Int) * (P.size : Int)) = (X : Int) := by rw [hmul]; exact IntWalk.i64_in _ (by omega)
      generalize hT : sumN (wayN ps) S = T at *
      have hsw : IntKind.i64.wrap ((T : Int) + (X : Int)) = (T : Int) + (X : Int) := IntWalk.i64_in _ (by omega)
      rw [← valsN_snoc] at hrg4
      replace hrg4 := Lib.hid hrg4
      simp only [wayV] at hrun hent
      clear hkv he0 hMs5 hw30 hP hPs hmul hX hrg
      go_wp2_with (go_at_call 25; refine hd1.out.mono ?_; rintro e w5 ⟨rfl, hb5⟩)
      have hb45 := Lib.hid ((below_a1 w4 (.cells #[.int .i64 (e0.1.1 : Int), .int .i64 (e0.1.2 : Int)] 48)).step hb5)
      go_roundw
      case rel => exact ⟨S ++ [e0], by rw [hnx.out, Int.natCast_add], hrg4.out.below hb45.out, hs4, Lib.hid (hb4.out.trans (hb45.out.mono (by rw [← hI]; exact hb4.out.size)))⟩
      case measure =>
        rw [(hrg4.out.below hb45.out).seen, hseen.out]
        simp only [valsN, List.length_map, List.length_append, List.length_cons, List.length_nil] at hdl ⊢
        omega
end Go.Proofs.Ytijelimpkcnbjaa
