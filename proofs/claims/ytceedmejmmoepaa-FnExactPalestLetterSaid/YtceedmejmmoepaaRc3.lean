/- Ribbons: the shades of a text: pure, and the model's functions. -/
import Derived.Test.YtceedmejmmoepaaRb5
namespace Go.Proofs.Ytceedmejmmoepaa
open Go.RowKit Go.ChangeShapes Go.WideShapes Go.Deep
set_option linter.unusedVariables false
set_option linter.unusedSimpArgs false

def tB14 (s : ByteArray) : Bool := decide ((s.size : Int) ≤ 100) && bytesIn 32 126 s
/-- The letters among the first bytes, with their shades, after d strokes. -/
def inkL (r : RibbonD) (d : Nat) (s : ByteArray) : Nat → List (Nat × Int)
  | 0 => []
  | k + 1 => if (bAt s k).toNat = 32 then inkL r d s k else inkL r d s k ++ [(k, shadeV r (d + (inkL r d s k).length))]
/-- The shades of the first bytes. -/
def shadesL (r : RibbonD) (d : Nat) (s : ByteArray) : Nat → List Int
  | 0 => []
  | k + 1 => shadesL r d s k ++ [if (bAt s k).toNat = 32 then 0 else shadeV r (d + (inkL r d s k).length)]
theorem shadesL_len (r : RibbonD) (d : Nat) (s : ByteArray) : ∀ k, (shadesL r d s k).length = k
  | 0 => rfl
  | k + 1 => by rw [shadesL, List.length_append, shadesL_len r d s k]; rfl
theorem inkL_len (r : RibbonD) (d : Nat) (s : ByteArray) : ∀ k, (inkL r d s k).length ≤ k
  | 0 => Nat.le_refl _
  | k + 1 => by
    have := inkL_len r d s k
    rw [inkL]
    split
    · omega
    · simp; omega
theorem inkL_lt (r : RibbonD) (d : Nat) (s : ByteArray) : ∀ k, ∀ x ∈ inkL r d s k, x.1 < k
  | 0, x, h => by cases h
  | k + 1, x, h => by
    rw [inkL] at h
    split at h
    · have := inkL_lt r d s k x h; omega
    · rcases List.mem_append.1 h with h1 | h1
      · have := inkL_lt r d s k x h1; omega
      · simp at h1; subst h1; simp
theorem inkL_pre (r : RibbonD) (d : Nat) (s : ByteArray) (k : Nat) : ∀ m, k ≤ m → ∃ t, inkL r d s m = inkL r d s k ++ t
  | 0, h => ⟨[], by obtain rfl : k = 0 := by omega
                    simp⟩
  | m + 1, h => by
    rcases Nat.lt_or_ge m k with h1 | h1
    · obtain rfl : k = m + 1 := by omega
      exact ⟨[], by simp⟩
    · obtain ⟨t, ht⟩ := inkL_pre r d s k m h1
      rw [inkL]
      split
      · exact ⟨t, ht⟩
      · exact ⟨t ++ [(m, shadeV r (d + (inkL r d s m).length))], by rw [ht, List.append_assoc]⟩
theorem shadesL_at (r : RibbonD) (d : Nat) (s : ByteArray) (k : Nat) : ∀ m, k < m → (shadesL r d s m).getD k 0 = if (bAt s k).toNat = 32 then 0 else shadeV r (d + (inkL r d s k).length)
  | 0, h => by omega
  | m + 1, h => by
    rw [shadesL, List.getD, List.getElem?_append]
    by_cases h1 : k < m
    · rw [if_pos (by rw [shadesL_len]; exact h1)]
      have := shadesL_at r d s k m h1
      rw [List.getD] at this
      exact this
    · obtain rfl : k = m := by omega
      rw [if_neg (by rw [shadesL_len]; omega), shadesL_len]
      simp
/-- The first letter that is too pale. -/
def paL (least : Int) : List (Nat × Int) → Int × Int
  | [] => (0, 3)
  | x :: t => if x.2 < least then ((x.1 : Int), 0) else paL least t
theorem paL_none {least : Int} : ∀ {l : List (Nat × Int)}, (∀ x ∈ l, ¬ x.2 < least) → paL least l = (0, 3)
  | [], _ => rfl
  | x :: t, h => by rw [paL, if_neg (h x (by simp))]; exact paL_none fun y hy => h y (by simp [hy])
theorem paL_hit {least : Int} {x : Nat × Int} {t : List (Nat × Int)} (hx : x.2 < least) : ∀ {l : List (Nat × Int)}, (∀ y ∈ l, ¬ y.2 < least) → paL least (l ++ x :: t) = ((x.1 : Int), 0)
  | [], _ => by rw [List.nil_append, paL, if_pos hx]
  | y :: l, h => by rw [List.cons_append, paL, if_neg (h y (by simp))]; exact paL_hit hx fun z hz => h z (by simp [hz])
/-- The code of a ribbon, strokes and a text. -/
def txC (r : RibbonD) (n : Int) (s : ByteArray) : Int := if rcC r n = 0 then (if tB14 s = true then 0 else 2) else rcC r n
theorem txC_ok {r : RibbonD} {n : Int} {s : ByteArray} (h : txC r n s = 0) : rcC r n = 0 ∧ tB14 s = true := by
  unfold txC at h
  by_cases h1 : rcC r n = 0
  · rw [if_pos h1] at h
    by_cases h2 : tB14 s = true
    · exact ⟨h1, h2⟩
    · rw [if_neg h2] at h; exact absurd h (by decide)
  · rw [if_neg h1] at h; exact absurd h h1
theorem tB14_size {s : ByteArray} (h : tB14 s = true) : s.size ≤ 100 := by
  simp only [tB14, Bool.and_eq_true, decide_eq_true_eq] at h
  omega
def shR14 (r : RibbonD) (n : Int) (s : ByteArray) : List Int × Int := if txC r n s = 0 then (shadesL r n.toNat s s.size, 0) else ([], txC r n s)
def paR14 (r : RibbonD) (n : Int) (s : ByteArray) (least : Int) : Int × Int :=
  if txC r n s = 0 then (if inR least 1 r.ink = true then paL least (inkL r n.toNat s s.size) else (0, 2)) else (0, txC r n s)

set_option maxHeartbeats 1600000 in
theorem text14 (r : RibbonD) (n : Int) (s : ByteArray) (hs : s.size ≤ 1048576) {v : Int} (h : txC r n s = v) (w : World) :
    Calls Try.prog 43 #[.agg #[.int .i64 r.spots, .int .i64 r.ink, .int .i64 r.takes], .int .i64 n, .string s] w fun e w' => e = .returned (.int .i64 v) ∧ Below w.heap.size w w' := by
  have hc := Lib.hid (fun v h W => code14 r n (v := v) h W)
  by_cases h1 : rcC r n = 0
  · have hc1 := Lib.hid (fun W => hc.out _ h1 W)
    cases h2 : tB14 s with
    | false =>
      have hr : Hid (2 = v) := Lib.hid (by rw [← h, txC, if_pos h1, h2]; rfl)
      have ht := Lib.hid (fun W => text_spec s 100 false h2 W (by unfold maxLen; omega))
      clear h h1 h2 hc
      obtain ⟨S, I, K⟩ := r
      go_enter Try.func43, Try.ntmps43
      go_wp2_with fail
      refine (hc1.out _).mono ?_
      rintro e w1 ⟨rfl, hb1⟩
      go_wp2_with fail
      refine (ht.out _).mono ?_
      rintro e w2 ⟨rfl, rfl⟩
      go_wp2
      go_ret
      exact ⟨ret_i64 hr.out, (below_a1 _ _).step hb1⟩
    | true =>
      have hr : Hid (0 = v) := Lib.hid (by rw [← h, txC, if_pos h1, h2]; rfl)
      have ht := Lib.hid (fun W => text_spec s 100 true h2 W (by unfold maxLen; omega))
      clear h h1 h2 hc
      obtain ⟨S, I, K⟩ := r
      go_enter Try.func43, Try.ntmps43
      go_wp2_with fail
      refine (hc1.out _).mono ?_
      rintro e w1 ⟨rfl, hb1⟩
      go_wp2_with fail
      refine (ht.out _).mono ?_
      rintro e w2 ⟨rfl, rfl⟩
      go_wp2
      go_ret
      exact ⟨ret_i64 hr.out, (below_a1 _ _).step hb1⟩
  · have hc1 := Lib.hid (fun W => hc.out _ rfl W)
    have hr : Hid (rcC r n = v) := Lib.hid (by rw [← h, txC, if_neg h1])
    generalize rcC r n = g at *
    have y1 : (g == 0) = false := beq_eq_false_iff_ne.2 h1
    have y2 : (g != 0) = true := by rw [bne, y1]; rfl
    clear h h1 hc
    obtain ⟨S, I, K⟩ := r
    go_enter Try.func43, Try.ntmps43
    go_wp2_with fail
    refine (hc1.out _).mono ?_
    rintro e w1 ⟨rfl, hb1⟩
    go_wp2
    go_ret
    exact ⟨ret_i64 hr.out, (below_a1 _ _).step hb1⟩
theorem box_lt14 {g : Nat} {a b c : Value} {w : World} (h : Box3r g a b c w) : g < w.heap.size := by
  have := h.c0
  rcases Nat.lt_or_ge g w.heap.size with h1 | h1
  · exact h1
  · rw [World.cell?, Array.getElem?_eq_none h1] at this; cases this
theorem box_grown14 {g : Nat} {a b c : Value} {w w' : World} {row : Option Nat} (h : Box3r g a b c w) (hg : w.grownBy w' row) (hr : row ≠ some g) : Box3r g a b c w' := by
  have hb := hg.block g (box_lt14 h) (fun e => hr e.symm)
  exact ⟨by rw [World.cell?, hb]; exact h.c0, by rw [World.cell?, hb]; exact h.c1, by rw [World.cell?, hb]; exact h.c2⟩
set_option maxRecDepth 100000 in
set_option maxHeartbeats 2400000 in
theorem shades14 (r : RibbonD) (hok : rbB r = true) (d : Nat) (hd : d ≤ 100000) (s : ByteArray) (hs : s.size ≤ 100) (w : World) :
    Calls Try.prog 44 #[.agg #[.int .i64 r.spots, .int .i64 r.ink, .int .i64 r.takes], .int .i64 (d : Int), .string s] w fun e w' =>
      ∃ A c, e = .returned (.slice A s.size c) ∧ OInts w' w.heap.size A s.size (shadesL r d s s.size) ∧ Below w.heap.size w w' := by
  have hsh := Lib.hid (fun (k : Nat) (hk : k ≤ 200000) W => shade14 r hok k hk rfl W)
  have hst := Lib.hid (fun k => (show shadesL r d s (k + 1) = shadesL r d s k ++ [if (bAt s k).toNat = 32 then 0 else shadeV r (d + (inkL r d s k).length)] from rfl))
  have hin := Lib.hid (fun k => (show inkL r d s (k + 1) = if (bAt s k).toNat = 32 then inkL r d s k else inkL r d s k ++ [(k, shadeV r (d + (inkL r d s k).length))] from rfl))
  have hil := Lib.hid (inkL_len r d s)
  have hsl := Lib.hid (shadesL_len r d s)
  have hs0 : Hid (shadesL r d s 0 = []) := Lib.hid rfl
  have hi0 : Hid (inkL r d s 0 = []) := Lib.hid rfl
  obtain ⟨D, hD⟩ : ∃ D, (fun k => shadeV r k) = D := ⟨_, rfl⟩
  have hDk : ∀ k, shadeV r k = D k := fun k => by rw [← hD]
  simp only [hDk] at hsh hst hin
  generalize shadesL r d s = SL at *
  generalize inkL r d s = IL at *
  clear hok hDk hD
  obtain ⟨S, I, K⟩ := r
  simp only at hsh
  obtain ⟨i0, hi, hz0, hz1, hz2⟩ := info_parts Try.infoI64
  go_enter Try.func44, Try.ntmps44
  go_wp2
  go_loopw [7, 8, 1] (fun o i t wr => ∃ k : Nat, k ≤ s.size ∧ i = .int .i64 (k : Int) ∧ t = .int .i64 ((d + (IL k).length : Nat) : Int) ∧ Below w.heap.size w wr ∧ Box3r w.heap.size (.int .i64 S) (.int .i64 I) (.int .i64 K) wr ∧ wr.ownsRow (w.heap.size + 1) 2 1 o k ((SL k).flatMap intC)) (fun _ i _ _ => s.size - (intOf i).toNat)
  case atStart =>
    refine ⟨0, by omega, rfl, ?_, below_a2 _ _ _, (Box3r.new w _ _ _ _).step (below_a1 _ _), ?_⟩
    · rw [hi0.out]; rfl
    · rw [hs0.out]
      have h := owns_new8 (w.alloc (.cells #[.int .i64 S, .int .i64 I, .int .i64 K] 25)) 2
      rw [World.size_alloc] at h
      exact h
  case round =>
    rename World => wr
    obtain ⟨k, hk, rfl, rfl, hbw, hbx, hrow⟩ := hrel
    replace hbx := Lib.hid hbx
    replace hrow := Lib.hid hrow
    have hwz := box_lt14 hbx.out
    by_cases hlt : k < s.size
    · have e0 : (0 : Int) ≤ (k : Int) := by omega
      have e1 : (k : Int) < (s.size : Int) := by omega
      have hwk : IntKind.i64.wrap ((k : Int) + 1) = ((k + 1 : Nat) : Int) := by rw [IntWalk.i64_in _ (by omega)]; omega
      have hb : bAt s k = s[k]'hlt := bAt_eq hlt
      have hlk := hil.out k
      by_cases h32 : (s[k]'hlt).toNat = 32
      · obtain ⟨y1, y2⟩ : (((s[k]'hlt).toNat : Int) == 32) = true ∧ ((s[k]'hlt).toNat == 32) = true := ⟨beq_iff_eq.2 (by omega), beq_iff_eq.2 h32⟩
        have hS1 : Hid (SL (k + 1) = SL k ++ [0]) := Lib.hid (by rw [hst.out, if_pos (by rw [hb]; exact h32)])
        have hI1 : Hid (IL (k + 1) = IL k) := Lib.hid (by rw [hin.out, if_pos (by rw [hb]; exact h32)])
        clear h32 hb
        go_wp2_with (at_builtin; refine wpList_append_own _ rfl _ _ 31 rfl (w.heap.size + 1) 2 i0 _ 1 8 Try.underlying31 hi hz0 hz1 hz2 rfl (by decide) _ _ _ rfl (hrow.out.alloc _) ⟨wr.heap.size, 0, none⟩ 1 1 [.int .i64 0] rfl rfl (news8 _ _ _) (one8 _) (by unfold maxLen; omega) (by omega) (by simp; omega) ?_)
        intro vq wq hownq hgrq hnilq
        have hgqq := grown_trans (grown_below (below_a1 wr _) _) hgrq
        have hfin : Hid (Below w.heap.size w wq ∧ Box3r w.heap.size (.int .i64 S) (.int .i64 I) (.int .i64 K) wq ∧ wq.ownsRow (w.heap.size + 1) 2 1 vq (k + 1) ((SL (k + 1)).flatMap intC)) := Lib.hid ⟨hbw.grown hgqq hbw.size (fun j hj => by have := owns_ge8 hrow.out hj; omega), box_grown14 hbx.out hgqq (fun hj => by have := owns_ge8 hrow.out hj; omega), by rw [hS1.out, snoc8]; exact hownq⟩
        clear hownq hgrq hnilq hgqq hrow hbx
        go_wp2
        go_roundw
        case rel => exact ⟨k + 1, by omega, by go_num, (by rw [hI1.out]; first | rfl | go_num | (push_cast; rfl)), hfin.out⟩
        case measure => simp [intOf]; omega
      · obtain ⟨y1, y2⟩ : (((s[k]'hlt).toNat : Int) == 32) = false ∧ ((s[k]'hlt).toNat == 32) = false := ⟨beq_eq_false_iff_ne.2 (by omega), beq_eq_false_iff_ne.2 h32⟩
        have hS1 : Hid (SL (k + 1) = SL k ++ [D (d + (IL k).length)]) := Lib.hid (by rw [hst.out, if_neg (by rw [hb]; exact h32)])
        have hI1 : Hid ((IL (k + 1)).length = (IL k).length + 1) := Lib.hid (by rw [hin.out, if_neg (by rw [hb]; exact h32)]; simp)
        have hc2 := Lib.hid (fun W => hsh.out (d + (IL k).length) (by omega) W)
        have hwt : IntKind.i64.wrap (((d + (IL k).length : Nat) : Int) + 1) = ((d + (IL k).length + 1 : Nat) : Int) := by rw [IntWalk.i64_in _ (by omega)]; omega
        generalize hT : d + (IL k).length = T at *
        replace hT := Lib.hid hT
        clear h32 hb
        obtain ⟨q0, q1, q2⟩ := hbx.out
        go_wp2_with fail
        refine (hc2.out _).mono ?_
        rintro e w2 ⟨rfl, hb2⟩
        have hrl := Lib.hid (own_keep10 hrow.out hb2)
        have hbd := Lib.hid (hbw.step hb2)
        have hbx2 := Lib.hid (hbx.out.step hb2)
        have hz2w := hb2.size
        clear hb2 q0 q1 q2 hbx hrow
        go_wp2_with (at_builtin; refine wpList_append_own _ rfl _ _ 31 rfl (w.heap.size + 1) 2 i0 _ 1 8 Try.underlying31 hi hz0 hz1 hz2 rfl (by decide) _ _ _ rfl (hrl.out.alloc _) ⟨w2.heap.size, 0, none⟩ 1 1 [.int .i64 (D T)] rfl rfl (news8 _ _ _) (one8 _) (by unfold maxLen; omega) (by omega) (by simp; omega) ?_)
        intro vq wq hownq hgrq hnilq
        have hgqq := grown_trans (grown_below (below_a1 w2 _) _) hgrq
        have hfin : Hid (Below w.heap.size w wq ∧ Box3r w.heap.size (.int .i64 S) (.int .i64 I) (.int .i64 K) wq ∧ wq.ownsRow (w.heap.size + 1) 2 1 vq (k + 1) ((SL (k + 1)).flatMap intC)) := Lib.hid ⟨hbd.out.grown hgqq hbd.out.size (fun j hj => by have := owns_ge8 hrl.out hj; omega), box_grown14 hbx2.out hgqq (fun hj => by have := owns_ge8 hrl.out hj; omega), by rw [hS1.out, snoc8]; exact hownq⟩
        clear hownq hgrq hnilq hgqq hrl hbx2
        go_wp2
        go_roundw
        case rel => exact ⟨k + 1, by omega, by go_num, by rw [hI1.out, ← Nat.add_assoc, hT.out]; go_num, hfin.out⟩
        case measure => simp [intOf]; omega
    · obtain rfl : k = s.size := by omega
      have e1 : decide ((s.size : Int) < (s.size : Int)) = false := decide_eq_false (by omega)
      obtain ⟨A', c', rfl, hO⟩ := owns_i8 (hsl.out s.size) (own_mono10 hrow.out (Nat.le_succ _))
      have hO2 := Lib.hid hO
      clear hrow hO hbx
      go_wp2
      go_ret
      exact ⟨A', c', rfl, hO2.out, hbw⟩
set_option maxHeartbeats 1600000 in
theorem sh14_spec (r : RibbonD) (n : Int) (s : ByteArray) (w : World) (hg : r.good) (hwf : (Lit.int .i64 n).wf = true) (hs : s.size ≤ 1048576) :
    Calls Try.prog 25 #[.agg #[.int .i64 r.spots, .int .i64 r.ink, .int .i64 r.takes], .int .i64 n, .string s] w (IOut (shR14 r n s) w) := by
  clear hg hwf
  generalize hr : shR14 r n s = q
  replace hr := Lib.hid hr.symm
  have hc := Lib.hid (fun v h W => text14 r n s hs (v := v) h W)
  by_cases h1 : txC r n s = 0
  · obtain ⟨hk1, hk2⟩ := txC_ok h1
    obtain ⟨hok, h0, h2⟩ := rcC_ok hk1
    have hsz := tB14_size hk2
    have hb : Hid (q = (shadesL r n.toNat s s.size, 0)) := Lib.hid (by rw [hr.out, shR14, if_pos h1])
    have hc1 := Lib.hid (fun W => hc.out _ h1 W)
    have hsd := Lib.hid (fun W => shades14 r hok n.toNat (by omega) s hsz W)
    rw [show ((n.toNat : Nat) : Int) = n from Int.toNat_of_nonneg h0] at hsd
    generalize shadesL r n.toNat s s.size = L at *
    clear h1 hr hc hok h0 h2 hk1 hk2
    obtain ⟨S, I, K⟩ := r
    go_enter Try.func25, Try.ntmps25
    go_wp2_with fail
    refine (hc1.out _).mono ?_
    rintro e w1 ⟨rfl, hb1⟩
    obtain ⟨q0, q1, q2⟩ := (Box3r.new w _ (.int .i64 S) (.int .i64 I) (.int .i64 K)).step hb1
    have hb1' := Lib.hid ((below_a1 w _).step hb1)
    have hz := hb1'.out.size
    clear hb1
    go_wp2_with fail
    refine (hsd.out _).mono ?_
    rintro e w2 ⟨A, c, rfl, hO, hb2⟩
    replace hO := Lib.hid (ORow.mono hO hz)
    go_wp2
    go_ret2
    exact ⟨A, s.size, c, by rw [hb.out]; rfl, by omega, by rw [hb.out]; exact hO.out, hb1'.out.step hb2⟩
  · have hb : Hid (q = ([], txC r n s)) := Lib.hid (by rw [hr.out, shR14, if_neg h1])
    have hc1 := Lib.hid (fun W => hc.out _ rfl W)
    generalize txC r n s = g at *
    have y1 : (g == 0) = false := beq_eq_false_iff_ne.2 h1
    have y2 : (g != 0) = true := by rw [bne, y1]; rfl
    clear h1 hr hc
    obtain ⟨S, I, K⟩ := r
    go_enter Try.func25, Try.ntmps25
    go_wp2_with fail
    refine (hc1.out _).mono ?_
    rintro e w1 ⟨rfl, hb1⟩
    go_wp2
    go_ret2
    exact IOut.bad hb.out ((below_a1 _ _).step hb1)
end Go.Proofs.Ytceedmejmmoepaa
