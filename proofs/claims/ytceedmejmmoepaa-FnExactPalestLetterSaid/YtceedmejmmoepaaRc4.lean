/- Ribbons: the model's PalestLetter. -/
import Derived.Test.YtceedmejmmoepaaRc3
namespace Go.Proofs.Ytceedmejmmoepaa
open Go.RowKit Go.ChangeShapes Go.WideShapes Go.Deep
set_option linter.unusedVariables false
set_option linter.unusedSimpArgs false

theorem ints_some14 {w : World} {b n : Nat} {A : Option Addr} {ps : List Int} (h : OInts w b A n ps) (hn : 0 < n) : ∃ g, A = some ⟨g, 0, none⟩ := by
  rcases h with ⟨_, ⟨_, h0⟩ | ⟨g, m, f, h1, _⟩⟩
  · omega
  · exact ⟨g, h1⟩
set_option maxRecDepth 100000 in
set_option maxHeartbeats 2400000 in
theorem pa14W (r : RibbonD) (n : Int) (s : ByteArray) (least : Int) (w : World) (hs : s.size ≤ 1048576) (h1 : txC r n s = 0) (h2 : inR least 1 r.ink = true) {q : Int × Int} (hq : paL least (inkL r n.toNat s s.size) = q) :
    Calls Try.prog 27 #[.agg #[.int .i64 r.spots, .int .i64 r.ink, .int .i64 r.takes], .int .i64 n, .string s, .int .i64 least] w fun e w' => e = .returned (.tuple #[.int .i64 q.1, .int .i64 q.2]) ∧ Below w.heap.size w w' := by
  obtain ⟨hk1, hk2⟩ := txC_ok h1
  obtain ⟨hok, h0, h3⟩ := rcC_ok hk1
  have hsz := tB14_size hk2
  have hc1 := Lib.hid (fun W => text14 r n s hs h1 W)
  have hsd := Lib.hid (fun W => shades14 r hok n.toNat (by omega) s hsz W)
  rw [show ((n.toNat : Nat) : Int) = n from Int.toNat_of_nonneg h0] at hsd
  have hat := Lib.hid (fun k hk => shadesL_at r n.toNat s k s.size hk)
  have hin := Lib.hid (fun k => (show inkL r n.toNat s (k + 1) = if (bAt s k).toNat = 32 then inkL r n.toNat s k else inkL r n.toNat s k ++ [(k, shadeV r (n.toNat + (inkL r n.toNat s k).length))] from rfl))
  have hpr := Lib.hid (fun k hk => inkL_pre r n.toNat s k s.size hk)
  have hi0 : Hid (inkL r n.toNat s 0 = []) := Lib.hid rfl
  obtain ⟨D, hD⟩ : ∃ D, (fun k => shadeV r k) = D := ⟨_, rfl⟩
  have hDk : ∀ k, shadeV r k = D k := fun k => by rw [← hD]
  simp only [hDk] at hat hin
  generalize n.toNat = d at *
  generalize shadesL r d s s.size = L at *
  generalize inkL r d s = IL at *
  replace hq := Lib.hid hq
  replace h2 := Lib.hid h2
  clear h1 hk1 hk2 hok h0 h3 hDk hD
  obtain ⟨S, I, K⟩ := r
  simp only at h2
  go_enter Try.func27, Try.ntmps27
  go_wp2_with fail
  refine (hc1.out _).mono ?_
  rintro e w1 ⟨rfl, hb1⟩
  obtain ⟨q0, q1, q2⟩ := (Box3r.new w _ (.int .i64 S) (.int .i64 I) (.int .i64 K)).step hb1
  replace hb1 := Lib.hid ((below_a1 w _).step hb1)
  have hz := hb1.out.size
  go_wp2_with fail
  refine (in8_spec h2.out _).mono ?_
  rintro e w1' ⟨rfl, rfl⟩
  go_wp2_with fail
  refine (hsd.out _).mono ?_
  rintro e w2 ⟨A, c, rfl, hO, hb2⟩
  have hb3 := Lib.hid (hb1.out.step hb2)
  replace hO := Lib.hid hO
  clear q0 q1 q2
  go_wp2
  go_loopw [12] (fun i wr => ∃ k : Nat, k ≤ s.size ∧ i = .int .i64 (k : Int) ∧ w2 = wr ∧ ∀ x ∈ IL k, ¬ x.2 < least) (fun i _ => s.size - (intOf i).toNat)
  case atStart => exact ⟨0, by omega, rfl, rfl, fun x hx => by rw [hi0.out] at hx; cases hx⟩
  case round =>
    obtain ⟨k, hk, rfl, rfl, hall⟩ := hrel
    replace hall := Lib.hid hall
    by_cases hlt : k < s.size
    · have e0 : (0 : Int) ≤ (k : Int) := by omega
      have e1 : (k : Int) < (s.size : Int) := by omega
      have hwk : IntKind.i64.wrap ((k : Int) + 1) = ((k + 1 : Nat) : Int) := by rw [IntWalk.i64_in _ (by omega)]; omega
      have hb : bAt s k = s[k]'hlt := bAt_eq hlt
      by_cases h32 : (s[k]'hlt).toNat = 32
      · obtain ⟨y1, y2⟩ : (((s[k]'hlt).toNat : Int) == 32) = true ∧ ((s[k]'hlt).toNat == 32) = true := ⟨beq_iff_eq.2 (by omega), beq_iff_eq.2 h32⟩
        have y3 : (((s[k]'hlt).toNat : Int) != 32) = false := by rw [bne, y1]; rfl
        have y4 : ((s[k]'hlt).toNat != 32) = false := by rw [bne, y2]; rfl
        have hI1 : Hid (IL (k + 1) = IL k) := Lib.hid (by rw [hin.out, if_pos (by rw [hb]; exact h32)])
        clear h32 hb
        go_wp2
        go_roundw
        case rel => exact ⟨k + 1, by omega, by go_num, (by first | trivial | rfl), by rw [hI1.out]; exact hall.out⟩
        case measure => simp [intOf]; omega
      · obtain ⟨y1, y2⟩ : (((s[k]'hlt).toNat : Int) == 32) = false ∧ ((s[k]'hlt).toNat == 32) = false := ⟨beq_eq_false_iff_ne.2 (by omega), beq_eq_false_iff_ne.2 h32⟩
        have y3 : (((s[k]'hlt).toNat : Int) != 32) = true := by rw [bne, y1]; rfl
        have y4 : ((s[k]'hlt).toNat != 32) = true := by rw [bne, y2]; rfl
        obtain ⟨T, hT⟩ : ∃ T, d + (IL k).length = T := ⟨_, rfl⟩
        have hI1 : Hid (IL (k + 1) = IL k ++ [(k, D T)]) := Lib.hid (by rw [hin.out, if_neg (by rw [hb]; exact h32), hT])
        have hLk : L.getD k 0 = D T := by rw [hat.out k hlt, if_neg (by rw [hb]; exact h32), hT]
        obtain ⟨g, rfl⟩ := ints_some14 hO.out (by omega)
        obtain ⟨s0, f3, l0, _⟩ := OInts.partsI hO.out hlt
        rw [hLk] at s0
        replace hLk := Lib.hid hLk
        clear h32 hb hT
        by_cases hd : D T < least
        · have z1 : decide (D T < least) = true := decide_eq_true hd
          have hv : Hid (q = ((k : Int), 0)) := Lib.hid (by
            obtain ⟨t, ht⟩ := hpr.out (k + 1) (by omega)
            rw [← hq.out, ht, hI1.out, List.append_assoc]
            exact paL_hit (x := (k, D T)) hd hall.out)
          generalize D T = v at *
          clear hd
          go_wp2
          go_ret2
          exact ⟨ret8_2 hv.out, hb3.out⟩
        · have z1 : decide (D T < least) = false := decide_eq_false hd
          have hnx : Hid (∀ x ∈ IL (k + 1), ¬ x.2 < least) := Lib.hid (by
            rw [hI1.out]
            intro x hx
            rcases List.mem_append.1 hx with h | h
            · exact hall.out x h
            · simp at h; subst h; exact hd)
          generalize D T = v at *
          clear hd
          go_wp2
          go_roundw
          case rel => exact ⟨k + 1, by omega, by go_num, (by first | trivial | rfl), hnx.out⟩
          case measure => simp [intOf]; omega
    · obtain rfl : k = s.size := by omega
      have e1 : decide ((s.size : Int) < (s.size : Int)) = false := decide_eq_false (by omega)
      have hv : Hid (q = (0, 3)) := Lib.hid (by rw [← hq.out]; exact paL_none hall.out)
      clear hall
      go_wp2
      go_ret2
      exact ⟨ret8_2 hv.out, hb3.out⟩
set_option maxHeartbeats 1600000 in
theorem pa14_spec (r : RibbonD) (n : Int) (s : ByteArray) (least : Int) (w : World) (hg : r.good) (hwf : (Lit.int .i64 n).wf = true) (hs : s.size ≤ 1048576) (hwl : (Lit.int .i64 least).wf = true) :
    Calls Try.prog 27 #[.agg #[.int .i64 r.spots, .int .i64 r.ink, .int .i64 r.takes], .int .i64 n, .string s, .int .i64 least] w fun e w' => e = .returned (.tuple #[.int .i64 (paR14 r n s least).1, .int .i64 (paR14 r n s least).2]) ∧ Below w.heap.size w w' := by
  clear hg hwf hwl
  by_cases h1 : txC r n s = 0
  · by_cases h2 : inR least 1 r.ink = true
    · exact pa14W r n s least w hs h1 h2 (by rw [paR14, if_pos h1, if_pos h2])
    · have hb : Hid (paR14 r n s least = (0, 2)) := Lib.hid (by rw [paR14, if_pos h1, if_neg h2])
      replace h2 : inR least 1 r.ink = false := by simpa using h2
      have hc1 := Lib.hid (fun W => text14 r n s hs h1 W)
      generalize paR14 r n s least = q at *
      clear h1
      obtain ⟨S, I, K⟩ := r
      simp only at h2
      replace h2 := Lib.hid h2
      go_enter Try.func27, Try.ntmps27
      go_wp2_with fail
      refine (hc1.out _).mono ?_
      rintro e w1 ⟨rfl, hb1⟩
      obtain ⟨q0, q1, q2⟩ := (Box3r.new w _ (.int .i64 S) (.int .i64 I) (.int .i64 K)).step hb1
      go_wp2_with fail
      refine (in8_spec h2.out _).mono ?_
      rintro e w1' ⟨rfl, rfl⟩
      go_wp2
      go_ret2
      exact ⟨ret8_2 hb.out, (below_a1 _ _).step hb1⟩
  · have hb : Hid (paR14 r n s least = (0, txC r n s)) := Lib.hid (by rw [paR14, if_neg h1])
    have hc1 := Lib.hid (fun W => text14 r n s hs rfl W)
    generalize paR14 r n s least = q at *
    generalize txC r n s = g at *
    have y1 : (g == 0) = false := beq_eq_false_iff_ne.2 h1
    have y2 : (g != 0) = true := by rw [bne, y1]; rfl
    clear h1
    obtain ⟨S, I, K⟩ := r
    go_enter Try.func27, Try.ntmps27
    go_wp2_with fail
    refine (hc1.out _).mono ?_
    rintro e w1 ⟨rfl, hb1⟩
    go_wp2
    go_ret2
    exact ⟨ret8_2 hb.out, (below_a1 _ _).step hb1⟩
end Go.Proofs.Ytceedmejmmoepaa
