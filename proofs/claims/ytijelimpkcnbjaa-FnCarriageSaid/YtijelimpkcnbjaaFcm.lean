/- Several texts, one behind the other. -/
import Derived.Test.YtijelimpkcnbjaaFbm
import Derived.Test.YtijelimpkcnbjaaDrawn
/- The law on a carriage: what it wants without a program, and what it draws. -/
namespace Go.Proofs.Ytijelimpkcnbjaa
open Go.RowKit Go.ChangeShapes Go.WideShapes Go.Deep
set_option linter.unusedVariables false
set_option linter.unusedSimpArgs false

theorem endK_app (ps : List Int) : ∀ (p q : List Nat) (a : Nat), endK ps a (p ++ q) = (endK ps a p).bind fun n => endK ps n q
  | [], q, a => by simp [endK]
  | k :: p, q, a => by
    simp only [List.cons_append, endK]
    cases h : stK ps a k with
    | none => rfl
    | some n => simpa using endK_app ps p q n
theorem way_tri {ps : List Int} {a b c : Nat} (ha : a ≤ 30) (hb : b ≤ 30) (hc : c ≤ 30) : wayN ps (a, c) ≤ wayN ps (a, b) + wayN ps (b, c) := by
  obtain ⟨e1, e2⟩ := wayN_far (S := ps) (k := (a, c)) ha hc
  obtain ⟨e3, e4⟩ := wayN_far (S := ps) (k := (a, b)) ha hb
  obtain ⟨e5, e6⟩ := wayN_far (S := ps) (k := (b, c)) hb hc
  simp only at e1 e2 e3 e4 e5 e6
  obtain ⟨p1, p2⟩ := wayK_way (farP_far ps hb) 30 a ha e4
  obtain ⟨q1, q2⟩ := wayK_way (farP_far ps hc) 30 b hb e6
  have h := way_long (farP_far ps hc) (wayK ps (farP ps b) 30 a ++ wayK ps (farP ps c) 30 b) a ha ⟨fun k hk => (List.mem_append.1 hk).elim (p1.1 k) (q1.1 k), by rw [endK_app, p1.2]; exact q1.2⟩
  rw [List.length_append] at h
  omega
theorem way_dist {ps : List Int} {a b : Nat} (ha : a ≤ 30) (hb : b ≤ 30) : (wayN ps (a, b) : Int) ≤ (((a : Int) - (b : Int)).natAbs : Int) := by
  obtain ⟨e1, e2⟩ := wayN_far (S := ps) (k := (a, b)) ha hb
  simp only at e1 e2
  have hf := farP_far ps hb
  obtain ⟨h1, h2⟩ := far_bound hb hf.zero hf.step
  rcases Nat.le_total a b with h | h
  · have := h1 (b - a) (by omega)
    rw [show b - (b - a) = a by omega] at this
    omega
  · have := h2 (a - b) (by omega)
    rw [show b + (a - b) = a by omega] at this
    omega
theorem next_raw {ps : List Int} {a : Int} {m : UInt8} {n : Nat} (h : nextP ps a m = (n : Int)) : rawP ps a m = (n : Int) := by
  unfold nextP at h
  split at h
  · exact h
  · omega
theorem raw_2 {ps : List Int} {a n : Int} (h : rawP ps a (mvB 2) = n) : n = a + 1 := by simpa [rawP, mvB] using h.symm
theorem raw_1 {ps : List Int} {a n : Int} (h : rawP ps a (mvB 1) = n) : n = a - 1 := by simpa [rawP, mvB] using h.symm
theorem raw_0 {ps : List Int} {a n : Int} (h : rawP ps a (mvB 0) = n) : tabP ps a = n := by simpa [rawP, mvB] using h
/-- The next byte of a way. -/
theorem sim_step {ps : List Int} {t : Nat} {D : Nat → Int} (h : IsFar ps t D) {P : List UInt8} {i f a : Nat} (hd : P.drop i = wayL ps D f a) (hi : i < P.length) (ha : a ≤ 30) (hf : D a ≤ (f : Int)) :
    ∃ k n f' : Nat, k < 3 ∧ P[i]? = some (mvB k) ∧ nextP ps (a : Int) (mvB k) = (n : Int) ∧ n ≤ 30 ∧ P.drop (i + 1) = wayL ps D f' n ∧ D n ≤ (f' : Int) := by
  rw [List.drop_eq_getElem_cons hi] at hd
  match f, hd, hf with
  | 0, hd, hf => rw [wayL] at hd; cases hd
  | f' + 1, hd, hf =>
    rw [wayL] at hd
    split at hd
    · cases hd
    · rename_i h0
      obtain ⟨hk, n, hn, hn30, hdn⟩ := first_ok h ha (by omega)
      injection hd with h1 h2
      refine ⟨firstK ps D a, n, f', hk, by rw [List.getElem?_eq_getElem hi, h1], hn, hn30, ?_, by omega⟩
      rw [h2, hn, Int.toNat_natCast]
theorem sim_end {ps : List Int} {t : Nat} {D : Nat → Int} (h : IsFar ps t D) {P : List UInt8} {i f a : Nat} (hd : P.drop i = wayL ps D f a) (hi : P.length ≤ i) (ha : a ≤ 30) (hf : D a ≤ (f : Int)) : a = t := by
  rw [List.drop_eq_nil_of_le hi] at hd
  refine Classical.byContradiction fun hne => ?_
  obtain ⟨k, hk, n, hn, hdn⟩ := h.back a ha hne
  have := h.pos n (next_le hn)
  match f, hd, hf with
  | 0, hd, hf => omega
  | f' + 1, hd, hf =>
    rw [wayL, if_neg (by omega)] at hd
    cases hd
theorem rises_snoc {hi : Int} : ∀ (ps : List Int) (lo y : Int), risesB hi lo ps = true → (∀ x ∈ ps, x < y) → lo ≤ y → y ≤ hi → risesB hi lo (ps ++ [y]) = true
  | [], lo, y, _, _, h1, h2 => by simp [risesB, inR_iff.2 ⟨h1, h2⟩]
  | x :: r, lo, y, h, hx, h1, h2 => by
    rw [risesB, Bool.and_eq_true] at h
    rw [List.cons_append, risesB, h.1, Bool.true_and]
    have := hx x (by simp)
    exact rises_snoc r (x + 1) y h.2 (fun z hz => hx z (by simp [hz])) (by omega) h2
theorem mbR_ok {ps : List Int} (hs : stB ps = true) {a b : Nat} (ha : a ≤ 30) (hb : b ≤ 30) : mbR ps (a : Int) (b : Int) = ((wayN ps (a, b) : Int), 0) := by
  rw [mbR, if_pos (mvC_0 hs (by rw [inR_iff.2 ⟨by omega, by omega⟩, inR_iff.2 ⟨by omega, by omega⟩]; rfl)), Int.toNat_natCast, Int.toNat_natCast]
  rw [(wayN_far (S := ps) (k := (a, b)) ha hb).1]
theorem pbR_ok {ps : List Int} (hs : stB ps = true) {a b : Nat} (ha : a ≤ 30) (hb : b ≤ 30) : pbR ps (a : Int) (b : Int) = (⟨(wayP ps b a).toArray⟩, 0) := by
  rw [pbR, if_pos (mvC_0 hs (by rw [inR_iff.2 ⟨by omega, by omega⟩, inR_iff.2 ⟨by omega, by omega⟩]; rfl)), Int.toNat_natCast, Int.toNat_natCast]
theorem cap8x {w : World} {base : Nat} {e : TypeId} {size n : Nat} {v : Value} {xs : List Value} (h : w.ownsRow base e size v n xs) : ∀ A c, v = .slice A n c → n ≤ c := by
  intro A c hv
  obtain ⟨_, ⟨rfl, hn⟩ | ⟨g, cap, cur, rfl, _, _, hc, _⟩⟩ := h
  · omega
  · cases hv; exact hc
set_option maxRecDepth 100000 in
set_option maxHeartbeats 800000 in
theorem a2at_any (A : Option Addr) (n c i : Nat) (hi : i ≤ 10) (xs : List Int) (w : World) (hn : n ≤ maxLen) (h : Bytes w A n xs) (hg : ∀ x ∈ xs, byteGood x) :
    Calls Try.prog 11 #[.slice A n c, .int .i64 (i : Int), .int .i64 31] w fun e w' => (∃ x : Nat, x ≤ 30 ∧ e = .returned (.int .i64 (x : Int))) ∧ w = w' := by
  unfold maxLen at hn
  by_cases hlt : i < n
  · obtain ⟨b, off, x, rfl, hb, hx, c0⟩ := byte_at h hlt
    obtain ⟨g0, g1⟩ := hg x (List.mem_of_getElem? hx.out)
    obtain ⟨y, rfl⟩ : ∃ y : Nat, x = (y : Int) := ⟨x.toNat, by omega⟩
    have hk0 : (0 : Int) ≤ (i : Int) := Int.natCast_nonneg _
    have hk1 : (i : Int) < (n : Int) := by omega
    have hm : ((y : Int).tmod 31) = ((y % 31 : Nat) : Int) := (Int.ofNat_tmod y 31).symm
    have hlt31 : y % 31 ≤ 30 := by have := Nat.mod_lt y (show 31 > 0 by omega); omega
    have hwy : IntKind.i64.wrap (y : Int) = (y : Int) := IntWalk.i64_in _ (by omega)
    generalize y % 31 = q at *
    have hwq : IntKind.i64.wrap (q : Int) = (q : Int) := IntWalk.i64_in _ (by omega)
    clear hx h hg
    go_enter Try.func11, Try.ntmps11
    go_wp2
    go_ret
    exact ⟨⟨q, hlt31, rfl⟩, rfl⟩
  · have hk1 : ¬ (i : Int) < (n : Int) := by omega
    have hk2 : (n : Int) ≤ (i : Int) := by omega
    go_enter Try.func11, Try.ntmps11
    go_wp2
    go_ret
    exact ⟨⟨0, by omega, rfl⟩, rfl⟩
theorem a2size_any (a b : Nat) (ha : a ≤ 30) (hb : b ≤ 30) (w : World) :
    Calls Try.prog 14 #[.int .i64 ((a : Int) - (b : Int))] w fun e w' => e = .returned (.int .i64 ((((a : Int) - (b : Int)).natAbs : Nat) : Int)) ∧ w = w' := by
  by_cases h : (a : Int) - (b : Int) < 0
  · have hw : IntKind.i64.wrap (-((a : Int) - (b : Int))) = ((((a : Int) - (b : Int)).natAbs : Nat) : Int) := by rw [IntWalk.i64_in _ (by omega)]; omega
    generalize (a : Int) - (b : Int) = d at *
    go_enter Try.func14, Try.ntmps14
    go_wp2
    go_ret
    exact ⟨by rw [← hw]; rfl, rfl⟩
  · have hw : ((((a : Int) - (b : Int)).natAbs : Nat) : Int) = (a : Int) - (b : Int) := by omega
    generalize (a : Int) - (b : Int) = d at *
    go_enter Try.func14, Try.ntmps14
    go_wp2
    go_ret
    exact ⟨rfl, rfl⟩
set_option maxRecDepth 100000 in
set_option maxHeartbeats 1600000 in
theorem a2stops_any (A : Option Addr) (n c : Nat) (xs : List Int) (w : World) (hn : n ≤ maxLen) (h : Bytes w A n xs) (hg : ∀ x ∈ xs, byteGood x) :
    Calls Try.prog 10 #[.slice A n c] w fun e w' => ∃ A' m c' ps, e = .returned (.slice A' m c') ∧ m ≤ 3 ∧ m ≤ c' ∧ OInts w' w.heap.size A' m ps ∧ risesB 30 1 ps = true ∧ (∃ a : Nat, a ≤ 21 ∧ (∀ x ∈ ps, 1 ≤ x ∧ x ≤ (a : Int)) ∧ (m = 0 → a = 0) ∧ (0 < m → ps[m - 1]? = some (a : Int))) ∧ Below w.heap.size w w' := by
  obtain ⟨i0, hi, hz0, hz1, hz2⟩ := info_parts Try.infoI64
  have hfr := Lib.hid (from_any A n c xs w hn h hg)
  clear h hg
  go_enter Try.func10, Try.ntmps10
  go_wp2_with fail
  refine hfr.out.mono ?_
  rintro e w1 ⟨rfl, hs1, hb1⟩
  have hr : w.heap.size < w1.heap.size := hs1.lt
  have hb10 := Lib.hid hb1
  have hbb := below_a1 w1 (.cells #[] 2)
  have hs1' := hs1.below hbb
  have hd1 := Lib.hid ((Drawn.refl w.heap.size w1.heap.size w1).below hbb (Nat.le_refl _))
  have hO1 := Lib.hid (owns_new8 w1 2)
  have hz1' := hbb.size
  have hpk := Lib.hid (pick_any w.heap.size 0 4 _ hs1' (by omega) (by omega))
  clear hs1 hbb hb1 hfr hs1'
  go_wp2_with fail
  refine hpk.out.mono ?_
  rintro e w2 ⟨z, rfl, z0, z1, z2, hs2, hg2⟩
  have hz4 := z1 (by omega)
  obtain ⟨k0, rfl⟩ : ∃ q : Nat, z = (q : Int) := ⟨z.toNat, by omega⟩
  have hO2 := Lib.hid (owns_past hO1.out hg2 hr)
  have hd2 := Lib.hid (hd1.out.pick hg2 hz1')
  have hz2' := hg2.size
  have hs2' := Lib.hid (hs2.mono (t' := 2 + 4 * (3 - k0)) (by omega))
  clear z1 z2 hs2 hg2 hpk hO1 hd1
  go_wp2
  go_loopw [4, 5, 6] (fun v at' k wr => ∃ (kk a : Nat) (ps : List Int), kk ≤ 3 ∧ k = .int .i64 (kk : Int) ∧ at' = .int .i64 (a : Int) ∧ a ≤ 7 * (3 - kk) ∧ wr.ownsRow w1.heap.size 2 1 v ps.length (ps.flatMap intC) ∧ Hid (ps.length ≤ 3 - kk ∧ risesB 30 1 ps = true ∧ (∀ x ∈ ps, 1 ≤ x ∧ x ≤ (a : Int)) ∧ (ps.length = 0 → a = 0) ∧ (0 < ps.length → ps[ps.length - 1]? = some (a : Int))) ∧ SrcAt wr w.heap.size (2 + 4 * (3 - kk)) ∧ Drawn w.heap.size w1.heap.size w1 wr ∧ w1.heap.size ≤ wr.heap.size) (fun _ _ k _ => (intOf k).toNat)
  case atStart => exact ⟨k0, 0, [], by omega, rfl, rfl, by omega, hO2.out, Lib.hid ⟨by simp, rfl, (fun x hx => by cases hx), fun _ => rfl, fun h => absurd h (by simp)⟩, hs2'.out, hd2.out, by omega⟩
  case round =>
    rename World => wr
    obtain ⟨kk, a, ps, hkk, rfl, rfl, ha, hO, hps, hsr, hdr, hzr⟩ := hrel
    by_cases hlt : 0 < kk
    · have hk1 : (0 : Int) < (kk : Int) := by omega
      have hwk : IntKind.i64.wrap ((kk : Int) - 1) = ((kk - 1 : Nat) : Int) := by rw [IntWalk.i64_in _ (by omega)]; omega
      have hpk := Lib.hid (pick_any w.heap.size _ 7 wr hsr (by omega) (by omega))
      replace hO := Lib.hid hO
      clear hsr
      go_wp2_with fail
      refine hpk.out.mono ?_
      rintro e w2b ⟨z, rfl, z0, z1, z2, hs2b, hg2⟩
      have hz7 := z1 (by omega)
      obtain ⟨n0, rfl⟩ : ∃ q : Nat, z = (q : Int) := ⟨z.toNat, by omega⟩
      have hO3 := Lib.hid (owns_past hO.out hg2 hr)
      have hd3 := Lib.hid (hdr.pick hg2 hzr)
      have hz3 := hg2.size
      replace hs2b := Lib.hid hs2b
      have hw1 : IntKind.i64.wrap (1 + (n0 : Int)) = 1 + (n0 : Int) := IntWalk.i64_in _ (by omega)
      obtain ⟨y, hy⟩ : ∃ y : Nat, a + (1 + n0) = y := ⟨_, rfl⟩
      have hw2 : IntKind.i64.wrap ((a : Int) + (1 + (n0 : Int))) = (y : Int) := by rw [IntWalk.i64_in _ (by omega)]; omega
      have hpl : ps.length ≤ 3 := by have := hps.out.1; omega
      have hps2 : Hid ((ps ++ [(y : Int)]).length ≤ 3 - (kk - 1) ∧ risesB 30 1 (ps ++ [(y : Int)]) = true ∧ (∀ x ∈ ps ++ [(y : Int)], 1 ≤ x ∧ x ≤ (y : Int)) ∧ ((ps ++ [(y : Int)]).length = 0 → y = 0) ∧ (0 < (ps ++ [(y : Int)]).length → (ps ++ [(y : Int)])[(ps ++ [(y : Int)]).length - 1]? = some (y : Int))) := Lib.hid (by
        obtain ⟨p1, p2, p3, p4, p5⟩ := hps.out
        refine ⟨by rw [List.length_append]; simp only [List.length_cons, List.length_nil]; omega, rises_snoc ps 1 y p2 (fun x hx => by have := p3 x hx; omega) (by omega) (by omega), fun x hx => ?_, fun h1 => by simp at h1, fun _ => by simp⟩
        rcases List.mem_append.1 hx with h1 | h1
        · have := p3 x h1; omega
        · rw [List.mem_singleton.1 h1]; omega)
      clear z1 z2 hg2 hpk hO hdr
      go_wp2_with (at_builtin; refine wpList_append_own _ rfl _ _ 26 rfl w1.heap.size 2 i0 _ 1 8 Try.underlying26 hi hz0 hz1 hz2 rfl (by decide) _ _ _ rfl (hO3.out.alloc _) ⟨w2b.heap.size, 0, none⟩ 1 1 [.int .i64 (y : Int)] rfl rfl (news8 _ _ _) (one8 _) (by unfold maxLen; omega) (by omega) (by simp; omega) ?_)
      intro vq wq hownq hgrq hnilq
      have hgqq := grown_trans (grown_below (below_a1 w2b _) _) hgrq
      have hge := fun j hj => owns_ge8 (g := j) hO3.out hj
      have hOq : Hid (wq.ownsRow w1.heap.size 2 1 vq (ps ++ [(y : Int)]).length ((ps ++ [(y : Int)]).flatMap intC)) := Lib.hid (by
        rw [snoc8, List.length_append]; exact hownq)
      have hsq := Lib.hid ((hs2b.out.grownO hgqq (fun q hq => by have := hge q hq; omega)).mono (t' := 2 + 4 * (3 - (kk - 1))) (by omega))
      have hdq := Lib.hid (hd3.out.youngO hgqq (by omega) (fun q hq => by have := hge q hq; omega))
      have hszq := hgqq.size
      clear hownq hgrq hnilq hgqq hO3 hs2b hd3
      go_wp2
      go_roundw
      case rel => exact ⟨kk - 1, y, ps ++ [(y : Int)], by omega, by go_num, rfl, by omega, hOq.out, hps2, hsq.out, hdq.out, by omega⟩
      case measure => simp [intOf]; omega
    · obtain rfl : kk = 0 := by omega
      have hcap := cap8x hO
      have hfin : Hid (Below w.heap.size w wr) := Lib.hid (hb10.out.trans ⟨hdr.os, hdr.tape, hdr.output, hdr.size, fun k hk => hdr.block k (by omega) (by omega)⟩)
      obtain ⟨A', c', rfl, hOI⟩ := owns_i8 rfl hO
      have hOI' := Lib.hid (ORow.mono hOI (Nat.le_of_lt hr))
      have hc' := Lib.hid (hcap A' c' rfl)
      clear hOI hO hcap
      go_wp2
      go_ret
      obtain ⟨p1, p2, p3, p4, p5⟩ := hps.out
      exact ⟨A', ps.length, c', ps, rfl, by omega, hc'.out, hOI'.out, p2, ⟨a, by omega, p3, p4, p5⟩, hfin.out⟩
end Go.Proofs.Ytijelimpkcnbjaa

/- The law on a carriage as one call: for every input it returns true. -/
namespace Go.Proofs.Ytijelimpkcnbjaa
open Go.RowKit Go.ChangeShapes Go.WideShapes Go.Deep
set_option linter.unusedVariables false
set_option linter.unusedSimpArgs false

theorem sim_byte {P : ByteArray} {i : Nat} {m : UInt8} (hi : i < P.size) (h : P.data.toList[i]? = some m) : (P[i]'hi) = m := by
  rw [byte_of hi] at h
  exact Option.some.inj h
theorem drop_tab {ps : List Int} {j : Nat} {x : Int} (h : ps[j]? = some x) (a : Int) {d : Int} (hd : tabP (ps.drop (j + 1)) a = d) : tabP (ps.drop j) a = if a < x then x else d := by
  rw [tabP_drop h, hd]
set_option maxRecDepth 100000 in
set_option maxHeartbeats 800000 in
theorem fnCarriage_any (A0 : Option Addr) (n0 c0 : Nat) (xs0 : List Int) (A1 : Option Addr) (n1 c1 : Nat) (xs1 : List Int) (w : World) (h0 : n0 ≤ maxLen ∧ Bytes w A0 n0 xs0 ∧ ∀ x ∈ xs0, byteGood x) (h1 : n1 ≤ maxLen ∧ Bytes w A1 n1 xs1 ∧ ∀ x ∈ xs1, byteGood x) :
    Calls Try.prog 4 #[.slice A0 n0 c0, .slice A1 n1 c1] w fun e w' => e = .returned (.bool true) ∧ Below w.heap.size w w' := by
  obtain ⟨hm0, P0, hg0⟩ := h0
  obtain ⟨hm1, P1, hg1⟩ := h1
  obtain ⟨i0, hi, hz0, hz1, hz2⟩ := info_parts Try.infoI64
  have hlong := a2long_two A0 A1 n0 c0 n1 c1 w hm0 hm1 _ rfl
  have hst := Lib.hid (a2stops_any A0 n0 c0 xs0 w hm0 P0 hg0)
  cases hlv : (decide (3000 < n0) || decide (3000 < n1)) with
  | true =>
    rw [hlv] at hlong
    replace hlong := Lib.hid hlong
    clear hlv hst hg0 hg1 P0 P1
    go_enter Try.func4, Try.ntmps4
    go_wp2_with fail
    refine hlong.out.mono ?_
    rintro e w' ⟨rfl, rfl⟩
    go_wp2
    go_ret
    exact ⟨rfl, Below.refl _ _⟩
  | false =>
    rw [hlv] at hlong
    replace hlong := Lib.hid hlong
    clear hlv
    go_enter Try.func4, Try.ntmps4
    go_wp2_with fail
    refine hlong.out.mono ?_
    rintro e w' ⟨rfl, rfl⟩
    go_wp2_with fail
    refine hst.out.mono ?_
    rintro e w1 ⟨A, m, c, ps, rfl, hm3, hmc, hO, hri, ⟨l, hl21, hpx, hl0, hl1⟩, hb1⟩
    have hat := Lib.hid (fun i (hi : i ≤ 10) => a2at_any A1 n1 c1 i hi xs1 w1 hm1 (P1.below hb1) hg1)
    have hf0 := Lib.hid (hat.out 0 (by omega))
    have hf1 := Lib.hid (hat.out 1 (by omega))
    have hf2 := Lib.hid (hat.out 2 (by omega))
    have hml : ps.length = m := hO.1
    have hsB : stB ps = true := by rw [stB, decide_eq_true (by omega), Bool.true_and]; exact hri
    clear hlong hst hat P0 P1 hg0 hg1
    go_wp2_with fail
    refine hf0.out.mono ?_
    rintro e w1' ⟨⟨f, hf30, rfl⟩, rfl⟩
    go_wp2_with fail
    refine hf1.out.mono ?_
    rintro e w1' ⟨⟨t, ht30, rfl⟩, rfl⟩
    go_wp2_with fail
    refine hf2.out.mono ?_
    rintro e w1' ⟨⟨o, ho30, rfl⟩, rfl⟩
    have hI1 : Ints w1 A m ps := ORow.srow hO
    have hmb := Lib.hid (fun (a b : Nat) (ha : a ≤ 30) (hb : b ≤ 30) (W : World) (hW : Ints W A m ps) => mbW11 A m c ps a b W hW (by omega) (mbR_ok hsB ha hb))
    have hpb := Lib.hid (fun (W : World) (hW : Ints W A m ps) => pbW11 A m c ps f t W hW (by omega) (pbR_ok hsB hf30 ht30))
    have tri := way_tri (ps := ps) hf30 ho30 ht30
    have dist := way_dist (ps := ps) hf30 ht30
    have hsz : Hid (∀ W, Calls Try.prog 14 #[.int .i64 ((f : Int) - (t : Int))] W fun e w' => e = .returned (.int .i64 ((((f : Int) - (t : Int)).natAbs : Nat) : Int)) ∧ W = w') := Lib.hid (fun W => a2size_any f t hf30 ht30 W)
    have nf := (wayN_far (S := ps) (k := (f, t)) hf30 ht30).2
    have nf' := (wayN_far (S := ps) (k := (f, t)) hf30 ht30).1
    have nb := (wayN_far (S := ps) (k := (f, o)) hf30 ho30).2
    have nb' := (wayN_far (S := ps) (k := (f, o)) hf30 ho30).1
    have nc := (wayN_far (S := ps) (k := (o, t)) ho30 ht30).2
    have nc' := (wayN_far (S := ps) (k := (o, t)) ho30 ht30).1
    simp only at nf nf' nb nb' nc nc'
    rw [← nf'] at nf
    rw [← nb'] at nb
    rw [← nc'] at nc
    have hfar := Lib.hid (farP_far ps ht30)
    have hP0 : Hid ((⟨(wayP ps t f).toArray⟩ : ByteArray).size = wayN ps (f, t)) := Lib.hid (by simp [ByteArray.size, wayN])
    have hm1c := Lib.hid (hmb.out f t hf30 ht30 w1 hI1)
    clear hf0 hf1 hf2 nf' nb' nc'
    have hmore := Lib.hid (fun (b : Int) => way_more (S := ps) b (k := (f, t)) hf30 ht30)
    have hNft : Hid (∃ N, wayN ps (f, t) = N) := Lib.hid ⟨_, rfl⟩
    obtain ⟨N, hN⟩ := hNft.out
    obtain ⟨Na, hNa⟩ : ∃ Na, wayN ps (f, o) = Na := ⟨_, rfl⟩
    obtain ⟨Nb, hNb⟩ : ∃ Nb, wayN ps (o, t) = Nb := ⟨_, rfl⟩
    go_wp2_with fail
    refine hm1c.out.mono ?_
    rintro e w2 ⟨rfl, hb2⟩
    have hI2 := hI1.below hb2
    have hm2c := Lib.hid (hmb.out f o hf30 ho30 w2 hI2)
    go_wp2_with fail
    refine hm2c.out.mono ?_
    rintro e w3 ⟨rfl, hb3⟩
    have hI3 := hI2.below hb3
    have hm3c := Lib.hid (hmb.out o t ho30 ht30 w3 hI3)
    go_wp2_with fail
    refine hm3c.out.mono ?_
    rintro e w4 ⟨rfl, hb4⟩
    have hI4 := hI3.below hb4
    have hp4c := Lib.hid (hpb.out w4 hI4)
    go_wp2_with fail
    refine hp4c.out.mono ?_
    rintro e w5 ⟨rfl, hb5⟩
    have hI5 := Lib.hid (hI4.below hb5)
    have hb15 := ((hb2.step hb3).step hb4).step hb5
    have hb05 := Lib.hid (hb1.step hb15)
    rw [hN] at tri dist nf hP0 hmore
    rw [hNa] at tri nb
    rw [hNb] at tri nc
    simp only [hN, hNa, hNb]
    obtain ⟨P, hP⟩ : ∃ P : ByteArray, (⟨(wayP ps t f).toArray⟩ : ByteArray) = P := ⟨_, rfl⟩
    rw [hP] at hP0 ⊢
    have hPs := hP0.out
    have hPl : Hid (P.data.toList = wayL ps (farP ps t) 31 f) := Lib.hid (by rw [← hP]; rfl)
    have hD31 : Hid (farP ps t f ≤ ((31 : Nat) : Int)) := Lib.hid (by
      have := (wayN_far (S := ps) (k := (f, t)) hf30 ht30).2
      simp only at this
      omega)
    have hsm : IntKind.i64.wrap ((Na : Int) + (Nb : Int)) = (Na : Int) + (Nb : Int) := IntWalk.i64_in _ (by omega)
    have g1 : ¬ (Na : Int) + (Nb : Int) < (N : Int) := by omega
    have g2 : ¬ (N : Int) < 0 := by omega
    have g3 : ¬ (((f : Int) - (t : Int)).natAbs : Int) < (N : Int) := by omega
    have hsub : IntKind.i64.wrap ((f : Int) - (t : Int)) = (f : Int) - (t : Int) := IntWalk.i64_in _ (by omega)
    have g5 : ((N : Int) != (N : Int)) = false := by simp
    have hNP : (P.size : Int) = (N : Int) := by omega
    have hfO := Lib.hid hO
    replace hI1 := Lib.hid hI1
    clear hm1c hm2c hm3c hp4c hb2 hb3 hb4 hb5 hb15 hI2 hI3 hI4 hpb hP dist tri hO hmb hP0 hN hNa hNb hNft
    go_wp2_with (go_at_call 14; refine (hsz.out _).mono ?_; rintro e w6 ⟨rfl, rfl⟩)
    replace hNP := Lib.hid hNP
    go_loopw [17, 18, 19, 20] (fun at' i _ _ wr => ∃ (k a fu : Nat), k ≤ P.size ∧ i = .int .i64 (k : Int) ∧ at' = .int .i64 (a : Int) ∧ a ≤ 30 ∧ Hid (P.data.toList.drop k = wayL ps (farP ps t) fu a ∧ farP ps t a ≤ (fu : Int)) ∧ w5 = wr) (fun _ i _ _ _ => P.size - (intOf i).toNat)
    case atStart => exact ⟨0, f, 31, by omega, rfl, rfl, hf30, Lib.hid ⟨hPl.out, hD31.out⟩, rfl⟩
    case round =>
      obtain ⟨k, a, fu, hk, rfl, rfl, ha30, hdr, rfl⟩ := hrel
      by_cases hlt : k < P.size
      · obtain ⟨k3, n, fu', hk3, hbyte, hnx, hn30, hd', hf'⟩ := sim_step hfar.out hdr.out.1 (show k < P.data.toList.length from hlt) ha30 hdr.out.2
        have hb := sim_byte hlt hbyte
        have hraw := next_raw hnx
        have hk0 : (0 : Int) ≤ (k : Int) := Int.natCast_nonneg _
        have hk1 : (k : Int) < (P.size : Int) := by omega
        have hnn : ¬ (n : Int) < 0 := by omega
        have hn31 : ¬ (30 : Int) < (n : Int) := by omega
        have hrel2 := Lib.hid (show P.data.toList.drop (k + 1) = wayL ps (farP ps t) fu' n ∧ farP ps t n ≤ (fu' : Int) from ⟨hd', hf'⟩)
        clear hd' hf' hnx hbyte hdr
        rcases (show k3 = 0 ∨ k3 = 1 ∨ k3 = 2 by omega) with rfl | rfl | rfl
        · have hbv : (P[k]'hlt).toNat = 35 := by rw [hb]; rfl
          have q62 : (((P[k]'hlt).toNat : Int) == 62) = false := beq_eq_false_iff_ne.2 (by omega)
          have r62 : ((P[k]'hlt).toNat == 62) = false := beq_eq_false_iff_ne.2 (by omega)
          have q60 : (((P[k]'hlt).toNat : Int) == 60) = false := beq_eq_false_iff_ne.2 (by omega)
          have r60 : ((P[k]'hlt).toNat == 60) = false := beq_eq_false_iff_ne.2 (by omega)
          have q35 : (((P[k]'hlt).toNat : Int) == 35) = true := beq_iff_eq.2 (by omega)
          have r35 : ((P[k]'hlt).toNat == 35) = true := beq_iff_eq.2 (by omega)
          have htab := raw_0 hraw
          have hmw : IntKind.i64.wrap ((m : Int) - 1) = (m : Int) - 1 := IntWalk.i64_in _ (by omega)
          have htab' := Lib.hid htab
          clear hb hraw hbv htab
          go_wp2
          go_loopw [19, 20] (fun nx kk wr => ∃ (j : Nat) (d : Int), j ≤ m ∧ kk = .int .i64 ((j : Int) - 1) ∧ nx = .int .i64 d ∧ Hid (tabP (ps.drop j) (a : Int) = d) ∧ w5 = wr) (fun _ kk _ => ((intOf kk) + 1).toNat)
          case atStart => exact ⟨m, -1, by omega, rfl, rfl, Lib.hid (by rw [List.drop_eq_nil_of_le (by omega)]; rfl), rfl⟩
          case round =>
            obtain ⟨j, d, hj, rfl, rfl, hd, rfl⟩ := hrel
            by_cases hj0 : 0 < j
            · obtain ⟨j', rfl⟩ : ∃ j', j = j' + 1 := ⟨j - 1, by omega⟩
              have e1 : ((j' + 1 : Nat) : Int) - 1 = (j' : Int) := by omega
              rw [e1]
              clear e1
              obtain ⟨b3, o3, x3, rfl, hb3, hx3, c3⟩ := int_at hI5.out (show j' < m by omega)
              have hj1 : (0 : Int) ≤ (j' : Int) := Int.natCast_nonneg _
              have hj2 : (j' : Int) < (m : Int) := by omega
              have hnd := Lib.hid (drop_tab hx3.out (a : Int) hd.out)
              have hwj : IntKind.i64.wrap ((j' : Int) - 1) = (j' : Int) - 1 := IntWalk.i64_in _ (by omega)
              by_cases hax : (a : Int) < x3
              · have hnd2 : Hid (tabP (ps.drop j') (a : Int) = x3) := Lib.hid (by rw [hnd.out, if_pos hax])
                go_wp2
                go_roundw
                case rel => exact ⟨j', x3, by omega, rfl, rfl, hnd2, by first | rfl | trivial⟩
                case measure => simp [intOf] <;> omega
              · have hnd2 : Hid (tabP (ps.drop j') (a : Int) = d) := Lib.hid (by rw [hnd.out, if_neg hax])
                go_wp2
                go_roundw
                case rel => exact ⟨j', d, by omega, rfl, rfl, hnd2, by first | rfl | trivial⟩
                case measure => simp [intOf] <;> omega
            · obtain rfl : j = 0 := by omega
              have hdn : d = (n : Int) := by rw [← hd.out]; exact htab'.out
              subst hdn
              have h0f : ¬ (0 : Int) ≤ ((0 : Nat) : Int) - 1 := by omega
              go_wp2
              go_roundw
              case rel => exact ⟨_, _, _, ⟨k + 1, by omega, by go_num, n, rfl, hn30, fu', hrel2⟩, rfl, rfl, rfl⟩
              case measure => simp [intOf] <;> omega
        · have hbv : (P[k]'hlt).toNat = 60 := by rw [hb]; rfl
          have q62 : (((P[k]'hlt).toNat : Int) == 62) = false := beq_eq_false_iff_ne.2 (by omega)
          have r62 : ((P[k]'hlt).toNat == 62) = false := beq_eq_false_iff_ne.2 (by omega)
          have q60 : (((P[k]'hlt).toNat : Int) == 60) = true := beq_iff_eq.2 (by omega)
          have r60 : ((P[k]'hlt).toNat == 60) = true := beq_iff_eq.2 (by omega)
          have q35 : (((P[k]'hlt).toNat : Int) == 35) = false := beq_eq_false_iff_ne.2 (by omega)
          have r35 : ((P[k]'hlt).toNat == 35) = false := beq_eq_false_iff_ne.2 (by omega)
          have hna := raw_1 hraw
          have hmw : IntKind.i64.wrap ((a : Int) - 1) = (n : Int) := by rw [IntWalk.i64_in _ (by omega)]; omega
          clear hb hraw hbv hna
          go_wp2
          go_roundw
          case rel => exact ⟨k + 1, n, fu', by omega, by go_num, rfl, hn30, hrel2, by first | rfl | trivial⟩
          case measure => simp [intOf] <;> omega
        · have hbv : (P[k]'hlt).toNat = 62 := by rw [hb]; rfl
          have q62 : (((P[k]'hlt).toNat : Int) == 62) = true := beq_iff_eq.2 (by omega)
          have r62 : ((P[k]'hlt).toNat == 62) = true := beq_iff_eq.2 (by omega)
          have q60 : (((P[k]'hlt).toNat : Int) == 60) = false := beq_eq_false_iff_ne.2 (by omega)
          have r60 : ((P[k]'hlt).toNat == 60) = false := beq_eq_false_iff_ne.2 (by omega)
          have q35 : (((P[k]'hlt).toNat : Int) == 35) = false := beq_eq_false_iff_ne.2 (by omega)
          have r35 : ((P[k]'hlt).toNat == 35) = false := beq_eq_false_iff_ne.2 (by omega)
          have hna := raw_2 hraw
          have hmw : IntKind.i64.wrap ((a : Int) + 1) = (n : Int) := by rw [IntWalk.i64_in _ (by omega)]; omega
          clear hb hraw hbv hna
          go_wp2
          go_roundw
          case rel => exact ⟨k + 1, n, fu', by omega, by go_num, rfl, hn30, hrel2, by first | rfl | trivial⟩
          case measure => simp [intOf] <;> omega
      · obtain rfl : k = P.size := by omega
        have hat := sim_end hfar.out hdr.out.1 (show P.data.toList.length ≤ P.size from Nat.le_refl _) ha30 hdr.out.2
        have hat' := hat.symm
        subst hat'
        have gk : ¬ (P.size : Int) < (P.size : Int) := by omega
        have gat : ((t : Int) != (t : Int)) = false := by simp
        obtain ⟨y, hy⟩ : ∃ y : Nat, l + 5 = y := ⟨_, rfl⟩
        have hwy : IntKind.i64.wrap ((l : Int) + 5) = (y : Int) := by rw [IntWalk.i64_in _ (by omega)]; omega
        have hy30 : ¬ (30 : Int) < (y : Int) := by omega
        have hsB9 : stB (ps ++ [(y : Int)]) = true := by
          rw [stB, decide_eq_true (by rw [List.length_append]; simp only [List.length_cons, List.length_nil]; omega), Bool.true_and]
          exact rises_snoc ps 1 y hri (fun x hx => by have := hpx x hx; omega) (by omega) (by omega)
        have hmb9 := Lib.hid (fun (A9 : Option Addr) (c9 : Nat) (W : World) (hW : Ints W A9 (m + 1) (ps ++ [(y : Int)])) => mbW11 A9 (m + 1) c9 (ps ++ [(y : Int)]) f t W hW (by omega) (mbR_ok hsB9 hf30 ht30))
        have hN9 := hmore.out (y : Int)
        obtain ⟨N9, hN9'⟩ : ∃ N9, wayN (ps ++ [(y : Int)]) (f, t) = N9 := ⟨_, rfl⟩
        rw [hN9'] at hN9 hmb9
        have gN9 : (N9 : Int) ≤ (N : Int) := by omega
        have hlen9 : Hid ((ps ++ [(y : Int)]).length = m + 1) := Lib.hid (by rw [List.length_append, hml]; rfl)
        replace hy := Lib.hid hy
        clear hN9' hsB9 hmore hdr hfar hPl hD31 hri hpx
        by_cases hm0 : m = 0
        · obtain rfl := hl0 hm0
          have gm : ¬ (0 : Int) < (m : Int) := by omega
          have hwy0 : (5 : Int) = (y : Int) := by have := hy.out; omega
          replace hwy0 := Lib.hid hwy0
          subst hm0
          clear gm
          obtain ⟨v7, w7, hrun, hown7, hgr7⟩ := app_ints8 (w5.alloc (.cells #[] 2)) w5.heap.size 26 (.slice (some ⟨w5.heap.size, 0, none⟩) 0 0) 0 [] (owns_new8 w5 _) A 0 c ps (hI5.out.below (below_a1 _ _)) (by omega) (by simp)
          rw [Nat.zero_add, List.nil_append] at hown7
          obtain ⟨A7, c7, rfl⟩ := owns_form8 hown7
          have hb57 : Below w5.heap.size w5 w7 := Below.grown (below_a1 _ _) hgr7 (by simp) (fun j hj => by simp [Value.ownBlock] at hj; omega)
          have hz7 := hb57.size
          replace hown7 := Lib.hid hown7
          clear hgr7
          go_wp2_with (first | (at_builtin; refine Lib.wpList_append_run_sl _ rfl (Operand.tmp 162) (Operand.tmp 163) 26 rfl (.slice (some ⟨w5.heap.size, 0, none⟩) 0 0) (.slice A 0 c) rfl rfl (v' := .slice A7 0 c7) (w' := w7) hrun ?_) | (at_builtin; refine wpList_append_own _ rfl (Operand.tmp 164) (Operand.tmp 167) 26 rfl w5.heap.size 2 i0 _ 1 8 Try.underlying26 hi hz0 hz1 hz2 rfl (by decide) (.slice A7 0 c7) 0 (ps.flatMap intC) rfl (hown7.out.alloc _) ⟨w7.heap.size, 0, none⟩ 1 1 [.int .i64 5] rfl rfl (news8 _ _ _) (one8 _) (by unfold maxLen; omega) (by omega) (by simp; omega) ?_))
          intro vq wq hownq hgrq hnilq
          have hgqq := grown_trans (grown_below (below_a1 w7 _) _) hgrq
          have hb59 := Lib.hid (hb57.grown hgqq hz7 (fun j hj => owns_ge8 hown7.out hj))
          have hown9 : wq.ownsRow w5.heap.size 2 1 vq (0 + 1) ((ps ++ [(y : Int)]).flatMap intC) := by
            rw [snoc8, ← hwy0.out]
            exact hownq
          obtain ⟨A9, c9, rfl, hO9⟩ := owns_i8 hlen9.out hown9
          have h9 := Lib.hid (hmb9.out A9 c9 wq (ORow.srow hO9))
          clear hownq hgrq hnilq hgqq hown9 hown7 hO9
          go_wp2_with fail
          refine h9.out.mono ?_
          rintro e w10 ⟨rfl, hb10⟩
          go_wp2
          go_ret
          exact ⟨rfl, (hb05.out.step hb59.out).step hb10⟩
        · have gm : (0 : Int) < (m : Int) := by omega
          obtain ⟨p, hp⟩ : ∃ p, m - 1 = p := ⟨_, rfl⟩
          have hwm : IntKind.i64.wrap ((m : Int) - 1) = (p : Int) := by rw [IntWalk.i64_in _ (by omega)]; omega
          have hl2 := hl1 (by omega)
          rw [hp] at hl2
          obtain ⟨b3, o3, x3, rfl, hb3, hx3, c3⟩ := int_at hI5.out (show p < m by omega)
          have hx4 := hx3.out
          rw [hl2] at hx4
          obtain rfl := Option.some.inj hx4
          have hp0 : (0 : Int) ≤ (p : Int) := Int.natCast_nonneg _
          have hp1 : (p : Int) < (m : Int) := by omega
          replace hp := Lib.hid hp
          clear hx3 hx4 hl2
          obtain ⟨v7, w7, hrun, hown7, hgr7⟩ := app_ints8 (w5.alloc (.cells #[] 2)) w5.heap.size 26 (.slice (some ⟨w5.heap.size, 0, none⟩) 0 0) 0 [] (owns_new8 w5 _) (some ⟨b3, o3, none⟩) m c ps (hI5.out.below (below_a1 _ _)) (by omega) (by simp)
          rw [Nat.zero_add, List.nil_append] at hown7
          obtain ⟨A7, c7, rfl⟩ := owns_form8 hown7
          have hb57 : Below w5.heap.size w5 w7 := Below.grown (below_a1 _ _) hgr7 (by simp) (fun j hj => by simp [Value.ownBlock] at hj; omega)
          have hz7 := hb57.size
          replace hown7 := Lib.hid hown7
          clear hgr7
          go_wp2_with (first | (at_builtin; refine Lib.wpList_append_run_sl _ rfl (Operand.tmp 162) (Operand.tmp 163) 26 rfl (.slice (some ⟨w5.heap.size, 0, none⟩) 0 0) (.slice (some ⟨b3, o3, none⟩) m c) rfl rfl (v' := .slice A7 m c7) (w' := w7) hrun ?_) | (at_builtin; refine wpList_append_own _ rfl (Operand.tmp 164) (Operand.tmp 167) 26 rfl w5.heap.size 2 i0 _ 1 8 Try.underlying26 hi hz0 hz1 hz2 rfl (by decide) (.slice A7 m c7) m (ps.flatMap intC) rfl (hown7.out.alloc _) ⟨w7.heap.size, 0, none⟩ 1 1 [.int .i64 (y : Int)] rfl rfl (news8 _ _ _) (one8 _) (by unfold maxLen; omega) (by omega) (by simp; omega) ?_))
          intro vq wq hownq hgrq hnilq
          have hgqq := grown_trans (grown_below (below_a1 w7 _) _) hgrq
          have hb59 := Lib.hid (hb57.grown hgqq hz7 (fun j hj => owns_ge8 hown7.out hj))
          have hown9 : wq.ownsRow w5.heap.size 2 1 vq (m + 1) ((ps ++ [(y : Int)]).flatMap intC) := by
            rw [snoc8]
            exact hownq
          obtain ⟨A9, c9, rfl, hO9⟩ := owns_i8 hlen9.out hown9
          have h9 := Lib.hid (hmb9.out A9 c9 wq (ORow.srow hO9))
          clear hownq hgrq hnilq hgqq hown9 hown7 hO9
          go_wp2_with fail
          refine h9.out.mono ?_
          rintro e w10 ⟨rfl, hb10⟩
          go_wp2
          go_ret
          exact ⟨rfl, (hb05.out.step hb59.out).step hb10⟩
end Go.Proofs.Ytijelimpkcnbjaa
