/- Corrections: what one sees, and what corrects a letter, by the program. -/
import Derived.Test.YtomnnhmhmehdjaaOv2
namespace Go.Proofs.Ytomnnhmhmehdjaa
open Go.RowKit Go.ChangeShapes Go.WideShapes Go.Deep Go.ChangeMaps Go.MapKept
set_option linter.unusedVariables false
set_option linter.unusedSimpArgs false

/-- What one sees, and whether it can be read: 0 stands for what cannot. -/
def seeR (ps : List OverD) (u t : UInt8) : UInt8 × Bool := if u = t ∨ t.toNat = 32 then (u, true) else if u.toNat = 32 then (t, true) else (seenL ps u t, !decide ((seenL ps u t).toNat = 0))
theorem u8y {a : UInt8} {n : Nat} (h : a.toNat = n) : ((a.toNat : Int) == (n : Int)) = true ∧ (a.toNat == n) = true := by
  subst h; simp
theorem u8n {a : UInt8} {n : Nat} (h : ¬ a.toNat = n) : ((a.toNat : Int) == (n : Int)) = false ∧ (a.toNat == n) = false :=
  ⟨beq_eq_false_iff_ne.2 (by omega), beq_eq_false_iff_ne.2 h⟩
set_option maxRecDepth 100000 in
set_option maxHeartbeats 2400000 in
theorem see12 (r1 r2 : Nat) (ps : List OverD) (hp : ∀ x ∈ ps, (bAt x.seen 0).toNat ≠ 0) (u t : UInt8) (w : World) (hS : MapIs bpV w r1 (seenE ps)) :
    Calls Try.prog 58 #[.agg #[.map (some r1), .map (some r2)], .int .u8 (u.toNat : Int), .int .u8 (t.toNat : Int)] w fun e w' => e = .returned (.tuple #[.int .u8 ((seeR ps u t).1.toNat : Int), .bool (seeR ps u t).2]) ∧ Below w.heap.size w w' := by
  generalize hr : seeR ps u t = r
  replace hr := Lib.hid hr.symm
  by_cases h1 : t = u
  · have y1 := yes12 h1
    have y2 := yesn12 h1
    have hres : Hid (r = (u, true)) := Lib.hid (by rw [hr.out, seeR, if_pos (.inl h1.symm)])
    clear hr h1
    go_enter Try.func58, Try.ntmps58
    go_wp2
    go_ret2
    exact ⟨by rw [hres.out]; rfl, below_a1 _ _⟩
  · have y1 := no12 h1
    have y2 := non12 h1
    by_cases h2 : t.toNat = 32
    · obtain ⟨z1, z2⟩ := u8y h2
      simp only [show ((32 : Nat) : Int) = 32 from rfl] at z1
      have hres : Hid (r = (u, true)) := Lib.hid (by rw [hr.out, seeR, if_pos (.inr h2)])
      clear hr h1 h2
      go_enter Try.func58, Try.ntmps58
      go_wp2
      go_ret2
      exact ⟨by rw [hres.out]; rfl, below_a1 _ _⟩
    · obtain ⟨z1, z2⟩ := u8n h2
      simp only [show ((32 : Nat) : Int) = 32 from rfl] at z1
      have hno : ¬ (u = t ∨ t.toNat = 32) := fun h => h.elim (fun e => h1 e.symm) h2
      by_cases h3 : u.toNat = 32
      · obtain ⟨x1, x2⟩ := u8y h3
        simp only [show ((32 : Nat) : Int) = 32 from rfl] at x1
        have hres : Hid (r = (t, true)) := Lib.hid (by rw [hr.out, seeR, if_neg hno, if_pos h3])
        clear hr h1 h2 h3 hno
        go_enter Try.func58, Try.ntmps58
        go_wp2
        go_ret2
        exact ⟨by rw [hres.out]; rfl, below_a1 _ _⟩
      · obtain ⟨x1, x2⟩ := u8n h3
        simp only [show ((32 : Nat) : Int) = 32 from rfl] at x1
        have hsv := seenE_val ps u t hp
        by_cases h0 : (seenL ps u t).toNat = 0
        · rw [if_pos h0] at hsv
          have hres : Hid (r = (0, false)) := Lib.hid (by rw [hr.out, seeR, if_neg hno, if_neg h3, decide_eq_true h0, UInt8.toNat_inj.1 (show (seenL ps u t).toNat = (0 : UInt8).toNat from h0)]; rfl)
          have hv1 := Lib.hid (see_no hsv).1
          have hb1 := Lib.hid (see_no hsv).2
          have hS3 := hS.below (B := w.heap.size) (below_a1 w (.cells #[.map (some r1), .map (some r2)] 74)) hS.lt
          clear hr h1 h2 h3 hno hsv h0
          go_enter Try.func58, Try.ntmps58
          go_wp2_with (at_lookup; refine wpList_look_is rfl _ _ _ 122 5 rfl layKey Try.underlying71 (zero_u8 _) rfl hS3 (u, t) rfl hv1.out hb1.out ?_)
          go_ret2
          exact ⟨by rw [hres.out]; rfl, below_a1 _ _⟩
        · rw [if_neg h0] at hsv
          have hres : Hid (r = (seenL ps u t, true)) := Lib.hid (by rw [hr.out, seeR, if_neg hno, if_neg h3, decide_eq_false h0]; rfl)
          have hv1 := Lib.hid (see_yes hsv).1
          have hb1 := Lib.hid (see_yes hsv).2
          have hS3 := hS.below (B := w.heap.size) (below_a1 w (.cells #[.map (some r1), .map (some r2)] 74)) hS.lt
          generalize seenL ps u t = z at *
          clear hr h1 h2 h3 hno hsv h0
          go_enter Try.func58, Try.ntmps58
          go_wp2_with (at_lookup; refine wpList_look_is rfl _ _ _ 122 5 rfl layKey Try.underlying71 (zero_u8 _) rfl hS3 (u, t) rfl hv1.out hb1.out ?_)
          go_ret2
          exact ⟨by rw [hres.out]; rfl, below_a1 _ _⟩
end Go.Proofs.Ytomnnhmhmehdjaa
