/- Boards: the model's functions: the costs of a text's strokes, their sum, and the answers about a text. -/
import Derived.Test.YtmnafnjhioeicaaFin2
import Derived.Laws.NewBlocks
import Derived.Deep.MidRow
namespace Go.Proofs.Ytmnafnjhioeicaa
open Go.RowKit Go.ChangeShapes Go.WideShapes Go.Deep
set_option linter.unusedVariables false
set_option linter.unusedSimpArgs false

theorem news1 (w : World) (v : Value) (T : TypeId) : ∀ j u, [v][j]? = some u → (w.alloc (.cells #[v] T)).cell? ((⟨w.heap.size, 0, none⟩ : Addr).add j) = some u := by
  intro j u hj
  match j, hj with
  | 0, hj => cases hj; exact cell_new (by simp [Addr.add]) rfl
  | j + 1, hj => simp at hj
theorem one1 (x : Int) : ∀ u ∈ [Value.int .i64 x], u.oneCell' = true := by
  intro u hu
  simp only [List.mem_cons, List.not_mem_nil, or_false] at hu
  rcases hu with rfl; rfl
theorem in_snoc (l : List Int) (x : Int) : (l ++ [x]).flatMap intC = l.flatMap intC ++ [.int .i64 x] := by simp [intC]
theorem owns_ge3 {w : World} {base : Nat} {E : TypeId} {size n g : Nat} {v : Value} {xs : List Value} (h : w.ownsRow base E size v n xs) (hg : v.ownBlock = some g) : base ≤ g := by
  obtain ⟨_, ⟨rfl, _⟩ | ⟨g', cap, cur, rfl, hb, _⟩⟩ := h
  · cases hg
  · cases hg; exact hb
theorem owns_form2 {w : World} {base : Nat} {E : TypeId} {size n : Nat} {v : Value} {xs : List Value} (h : w.ownsRow base E size v n xs) : ∃ A c, v = .slice A n c := by
  obtain ⟨_, ⟨rfl, rfl⟩ | ⟨g', cap, cur, rfl, _⟩⟩ := h
  · exact ⟨_, _, rfl⟩
  · exact ⟨_, _, rfl⟩
theorem owns_in {w : World} {base n : Nat} {L : Value} {l : List Int} (hn : l.length = n) (h : w.ownsRow base 2 1 L n (l.flatMap intC)) : ∃ A c, L = .slice A n c ∧ OInts w base A n l := by
  subst hn
  exact ORow.of_owns (fun _ => rfl) h
theorem owns_nil (w : World) (E : TypeId) : (w.alloc (.cells #[] E)).ownsRow w.heap.size E 1 (.slice (some ⟨w.heap.size, 0, none⟩) 0 0) 0 [] :=
  ⟨rfl, .inr ⟨w.heap.size, 0, #[], rfl, Nat.le_refl _, heap_alloc_new _ _, Nat.le_refl _, by unfold maxLen; omega, rfl, rfl⟩⟩

theorem owns_below {w w' : World} {base : Nat} {e : TypeId} {size n : Nat} {v : Value} {xs : List Value} (h : w.ownsRow base e size v n xs) (hb : Below w.heap.size w w') : w'.ownsRow base e size v n xs :=
  h.kept (grown_below hb none) (by cases v.ownBlock <;> simp)

def costL (ps : List PlaceD) (s t : ByteArray) (k : Nat) : List Int := (List.range k).map (costN ps s t)
theorem costL_next (ps : List PlaceD) (s t : ByteArray) (k : Nat) : costL ps s t (k + 1) = costL ps s t k ++ [costN ps s t k] := by simp [costL, List.range_succ]
theorem costL_len (ps : List PlaceD) (s t : ByteArray) (k : Nat) : (costL ps s t k).length = k := by simp [costL]
theorem costL_at (ps : List PlaceD) (s t : ByteArray) {k i : Nat} (h : i < k) : (costL ps s t k)[i]? = some (costN ps s t i) := by simp [costL, h]

set_option maxRecDepth 100000 in
set_option maxHeartbeats 1600000 in
theorem costs_spec (A : Option Addr) (n c : Nat) (ps : List PlaceD) (s t : ByteArray) (w : World) (h : Places w A n ps) (hs : s.size ≤ 1048576) (hok : finCode ps s t = 0) :
    Calls Try.prog 50 #[.slice A n c, .string s, .string t] w fun e w' => ∃ A' c', e = .returned (.slice A' t.size c') ∧ OInts w' w.heap.size A' t.size (costL ps s t t.size) ∧ Below w.heap.size w w' := by
  obtain ⟨k1, k2, k3, k4⟩ := finCode_ok hok
  have hsn : s.size = n := by rw [← h.1]; exact (layB_iff.1 k3).1
  have hn6 : n ≤ 6 := by have := (boardOk_iff.1 k1).2.2; rw [h.1] at this; exact this
  obtain ⟨i0, hi, hz0, hz1, hz2⟩ := info_parts Try.infoI64
  replace k2 := Lib.hid (fun i (hi : i < t.size) => textB_at k2 hi)
  have hcost := Lib.hid (fun a b (ha : a < n) (hb : b < n) W (hW : Places W A n ps) => cost_spec A n c ps W hW k1 a b ha hb rfl)
  replace k1 := Lib.hid k1
  clear hok k3
  go_enter Try.func50, Try.ntmps50
  go_wp2
  go_loopw [7, 8] (fun v i wr => ∃ k : Nat, k ≤ t.size ∧ i = .int .i64 k ∧ Below w.heap.size w wr ∧ wr.ownsRow w.heap.size 2 1 v k ((costL ps s t k).flatMap intC)) (fun _ i _ => t.size - (intOf i).toNat)
  case atStart => exact ⟨0, by omega, rfl, below_a1 _ _, owns_nil w _⟩
  case round =>
    obtain ⟨k, hk, rfl, hbw, hrow⟩ := hrel
    have hwz := hbw.size
    by_cases hlt : k < t.size
    · obtain ⟨q1, q2⟩ := k2.out k hlt
      have hidx := Lib.hid (fun W => idx_spec s (t[k]'hlt) W hs)
      rw [q1] at hidx
      have hrl := Lib.hid hrow
      have hk0 : (0 : Int) ≤ (k : Int) := Int.natCast_nonneg _
      have hk1 : (k : Int) < (t.size : Int) := by omega
      have hnx := Lib.hid (costL_next ps s t k)
      obtain ⟨v0, c0, rfl⟩ := owns_form2 hrow
      have hPw := h.below hbw
      clear hrow q1
      by_cases hz : k = 0
      · have hcn : Hid (costN ps s t k = (plc ps (stk s t k)).effort) := Lib.hid (by rw [hz]; rfl)
        have g0 : ((k : Int) == 0) = true := beq_iff_eq.2 (by omega)
        obtain ⟨b, off, x, rfl, hb, hx, d0, d1, d2⟩ := place_at hPw (show stk s t k < n by omega)
        rw [plc_of hx.out] at hcn
        have e0 : (0 : Int) ≤ (stk s t k : Int) := Int.natCast_nonneg _
        have e1 : (stk s t k : Int) < (n : Int) := by omega
        generalize stk s t k = q at *
        clear hz
        go_wp2_with fail
        refine (hidx.out _).mono ?_
        rintro e w1 ⟨rfl, rfl⟩
        go_wp2_with (at_builtin; refine wpList_append_own _ rfl _ _ 36 rfl w.heap.size 2 i0 _ 1 8 Try.underlying36 hi hz0 hz1 hz2 rfl (by decide) _ _ _ rfl (hrl.out.alloc _) ⟨wr.heap.size, 0, none⟩ 1 1 [.int .i64 x.effort] rfl rfl (news1 _ _ _) (one1 _) (by unfold maxLen; omega) (by omega) (by simp; omega) ?_)
        intro vq0 wq0 hownq0 hgrq0 hnilq0
        have hgqq0 := grown_trans (grown_below (below_a1 wr _) _) hgrq0
        clear hgrq0 hnilq0
        have hrel4 : Hid (Below w.heap.size w wq0 ∧ wq0.ownsRow w.heap.size 2 1 vq0 (k + 1) ((costL ps s t (k + 1)).flatMap intC)) := Lib.hid ⟨hbw.grown hgqq0 hwz (fun j hj => owns_ge3 hrl.out hj), by rw [hnx.out, in_snoc, hcn.out]; exact hownq0⟩
        clear hownq0 hgqq0 hrl
        go_wp2
        go_roundw
        case rel => exact ⟨k + 1, by omega, by go_num, hrel4.out.1, hrel4.out.2⟩
        case measure => simp [intOf]; omega
      · have g0 : ((k : Int) == 0) = false := beq_eq_false_iff_ne.2 (by omega)
        have hcn : Hid (costN ps s t k = costI ps (stk s t (k - 1)) (stk s t k)) := Lib.hid (by rw [costN, if_neg hz])
        obtain ⟨p1, p2⟩ := k2.out (k - 1) (by omega)
        have hidx2 := Lib.hid (fun W => idx_spec s (t[k - 1]'(by omega)) W hs)
        rw [p1] at hidx2
        have hcall := Lib.hid (fun W hW => hcost.out (stk s t (k - 1)) (stk s t k) (by omega) (by omega) W hW)
        have r2 : (0 : Int) ≤ (k : Int) - 1 := by omega
        have r3 : (k : Int) - 1 < (t.size : Int) := by omega
        have r4 : ((k : Int) - 1).toNat = k - 1 := by omega
        have s1 : IntKind.i64.wrap ((k : Int) - 1) = (k : Int) - 1 := IntWalk.i64_in _ (by omega)
        have hcr := costI_range k1.out (stk s t (k - 1)) (stk s t k)
        generalize costI ps (stk s t (k - 1)) (stk s t k) = cost at *
        generalize stk s t k = q at *
        generalize stk s t (k - 1) = p at *
        clear hz p1 hcr
        go_wp2_with fail
        refine (hidx.out _).mono ?_
        rintro e w1 ⟨rfl, rfl⟩
        go_wp2_with fail
        refine (hidx2.out _).mono ?_
        rintro e w1 ⟨rfl, rfl⟩
        go_wp2_with fail
        refine (hcall.out _ hPw).mono ?_
        rintro e w2 ⟨rfl, hb2⟩
        have hrl2 := Lib.hid (owns_below hrl.out hb2)
        have hbw2 := Lib.hid (hbw.step hb2)
        have hwz2 := hbw2.out.size
        clear hrl hb2
        go_wp2_with (at_builtin; refine wpList_append_own _ rfl _ _ 36 rfl w.heap.size 2 i0 _ 1 8 Try.underlying36 hi hz0 hz1 hz2 rfl (by decide) _ _ _ rfl (hrl2.out.alloc _) ⟨w2.heap.size, 0, none⟩ 1 1 [.int .i64 cost] rfl rfl (news1 _ _ _) (one1 _) (by unfold maxLen; omega) (by omega) (by simp; omega) ?_)
        intro vq0 wq0 hownq0 hgrq0 hnilq0
        have hgqq0 := grown_trans (grown_below (below_a1 w2 _) _) hgrq0
        clear hgrq0 hnilq0
        have hrel4 : Hid (Below w.heap.size w wq0 ∧ wq0.ownsRow w.heap.size 2 1 vq0 (k + 1) ((costL ps s t (k + 1)).flatMap intC)) := Lib.hid ⟨hbw2.out.grown hgqq0 hwz2 (fun j hj => owns_ge3 hrl2.out hj), by rw [hnx.out, in_snoc, hcn.out]; exact hownq0⟩
        clear hownq0 hgqq0 hrl2
        go_wp2
        go_roundw
        case rel => exact ⟨k + 1, by omega, by go_num, hrel4.out.1, hrel4.out.2⟩
        case measure => simp [intOf]; omega
    · obtain rfl : k = t.size := by omega
      obtain ⟨A', c', rfl, hO⟩ := owns_in (costL_len _ _ _ _) hrow
      replace hO := Lib.hid hO
      clear hrow
      go_wp2
      go_ret
      exact ⟨A', c', rfl, hO.out, hbw⟩

theorem sum_spec (A : Option Addr) (n c : Nat) (xs : List Int) (f : Nat → Int) (w : World) (h : Ints w A n xs) (hn : n ≤ 400) (hf : ∀ i, i < n → xs[i]? = some (f i)) (hr : ∀ i, 0 ≤ f i ∧ f i ≤ 75) :
    Calls Try.prog 49 #[.slice A n c] w fun e w' => e = .returned (.int .i64 (sumTo f n)) ∧ w = w' := by
  replace hf := Lib.hid hf
  have hsr := Lib.hid (sumTo_range hr)
  replace hr := Lib.hid hr
  go_enter Try.func49, Try.ntmps49
  go_wp2
  go_loopw [3, 4] (fun v i wr => ∃ k : Nat, k ≤ n ∧ i = .int .i64 k ∧ w = wr ∧ v = .int .i64 (sumTo f k)) (fun _ i _ => n - (intOf i).toNat)
  case atStart => exact ⟨0, by omega, rfl, rfl, rfl⟩
  case round =>
    obtain ⟨k, hk, rfl, rfl, rfl⟩ := hrel
    by_cases hlt : k < n
    · obtain ⟨b, off, x, rfl, hb, hx, c0⟩ := int_at h hlt
      have hx2 : x = f k := by have := hf.out k hlt; rw [hx.out] at this; exact Option.some.inj this
      have h1 := hsr.out k
      have h2 := hr.out k
      have hnx : Hid (sumTo f (k + 1) = sumTo f k + x) := Lib.hid (by rw [hx2]; rfl)
      rw [← hx2] at h2
      have s1 : IntKind.i64.wrap (sumTo f k + x) = sumTo f k + x := IntWalk.i64_in _ (by omega)
      clear hx2
      generalize sumTo f k = a at *
      go_wp2
      go_roundw
      case rel => exact ⟨k + 1, by omega, by go_num, by trivial, by rw [hnx.out]⟩
      case measure => simp [intOf]; omega
    · obtain rfl : k = n := by omega
      go_wp2
      go_ret
      exact ⟨rfl, rfl⟩
theorem ret_2 {p : Int × Int} {a b : Int} (h : p = (a, b)) : Ending.returned (.tuple #[.int .i64 a, .int .i64 b]) = .returned (.tuple #[.int .i64 p.1, .int .i64 p.2]) := by rw [h]
theorem ret_3 {p : Int × Int × Int} {a b c : Int} (h : p = (a, b, c)) : Ending.returned (.tuple #[.int .i64 a, .int .i64 b, .int .i64 c]) = .returned (.tuple #[.int .i64 p.1, .int .i64 p.2.1, .int .i64 p.2.2]) := by rw [h]

set_option maxHeartbeats 800000 in
theorem tc_spec (A : Option Addr) (n c : Nat) (ps : List PlaceD) (s t : ByteArray) (w : World) (h : Places w A n ps) (hn : n ≤ 1048576) (hg : ∀ x ∈ ps, x.good) (hs : s.size ≤ 1048576) (ht : t.size ≤ 1048576) :
    Calls Try.prog 18 #[.slice A n c, .string s, .string t] w fun e w' => e = .returned (.tuple #[.int .i64 (costR ps s t).1, .int .i64 (costR ps s t).2]) ∧ Below w.heap.size w w' := by
  generalize hr : costR ps s t = r
  replace hr := Lib.hid hr.symm
  have hq := Lib.hid (code7_spec A n c ps s t w h hn hs ht rfl)
  clear hg
  by_cases h0 : finCode ps s t = 0
  · have hres : Hid (r = (sumTo (costN ps s t) t.size, 0)) := Lib.hid (by rw [hr.out, costR, if_pos h0])
    have hcs := Lib.hid (fun W (hW : Places W A n ps) => costs_spec A n c ps s t W hW hs h0)
    have ht4 := (finCode_ok h0).2.2.2
    have hb := Lib.hid (finCode_ok h0).1
    rw [h0] at hq
    clear h0 hr
    go_enter Try.func18, Try.ntmps18
    go_wp2_with fail
    refine hq.out.mono ?_
    rintro e w1 ⟨rfl, hb1⟩
    go_wp2_with fail
    refine (hcs.out _ (h.below hb1)).mono ?_
    rintro e w2 ⟨A', c', rfl, hO, hb2⟩
    have hsum := Lib.hid (sum_spec A' t.size c' _ (costN ps s t) w2 hO.srow ht4 (fun i hi => costL_at ps s t hi) (costN_range hb.out s t))
    go_wp2_with fail
    refine hsum.out.mono ?_
    rintro e w3 ⟨rfl, rfl⟩
    go_wp2
    go_ret2
    exact ⟨ret_2 hres.out, hb1.step hb2⟩
  · have hres : Hid (r = (0, finCode ps s t)) := Lib.hid (by rw [hr.out, costR, if_neg h0])
    generalize finCode ps s t = code at *
    have g0 : (code == 0) = false := beq_eq_false_iff_ne.2 h0
    have g1 : (code != 0) = true := by simp [h0]
    clear h0 hr
    go_enter Try.func18, Try.ntmps18
    go_wp2_with fail
    refine hq.out.mono ?_
    rintro e w1 ⟨rfl, hb1⟩
    go_wp2
    go_ret2
    exact ⟨ret_2 hres.out, hb1⟩
end Go.Proofs.Ytmnafnjhioeicaa
