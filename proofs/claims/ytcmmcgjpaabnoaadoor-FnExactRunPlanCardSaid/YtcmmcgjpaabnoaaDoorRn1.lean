/- Plans that are run: the program's row while it is typed. -/
import Derived.Test.YtcmmcgjpaabnoaaDoorRn0
import Derived.Test.YtcmmcgjpaabnoaaDoorBf1
import Derived.Test.YtcmmcgjpaabnoaaDoorRep
import Derived.Test.YtcmmcgjpaabnoaaDoorShelf
import Derived.Laws.EntriesVeiled
import Derived.BigRegion
import Derived.Deep.QuietTactic
import Derived.BigQuiet
namespace Go.Proofs.YtcmmcgjpaabnoaaDoor
open Go.RowKit Go.ChangeShapes Go.WideShapes Go.Deep
set_option linter.unusedVariables false
set_option linter.unusedSimpArgs false

/-- A row while it is typed: the moves, the column, the letters. -/
structure TRow (b gL cap : Nat) (M : Value) (L : List UInt8) (a : Nat) (w : World) : Prop where
  c0 : w.cell? ⟨b, 0, none⟩ = some M
  c1 : w.cell? ⟨b, 1, none⟩ = some (.int .i64 (a : Int))
  c2 : w.cell? ⟨b, 2, none⟩ = some (.slice (some ⟨gL, 0, none⟩) 30 cap)
  fz : w.frozen? ⟨b, 1, none⟩ = false
  let_ : ∀ (j : Nat) x, L[j]? = some x → w.cell? ⟨gL, j, none⟩ = some (.int .i32 (x.toNat : Int))
  lfz : ∀ j, w.frozen? ⟨gL, j, none⟩ = false
  ne : b ≠ gL
  len : L.length = 30
  col : a ≤ 30
theorem TRow.drew {b gL cap : Nat} {M : Value} {L : List UInt8} {a : Nat} {w : World} (h : TRow b gL cap M L a w) (n : Nat) : TRow b gL cap M L a (w.drewN n) := ⟨h.c0, h.c1, h.c2, h.fz, h.let_, h.lfz, h.ne, h.len, h.col⟩
theorem TRow.drew1 {b gL cap : Nat} {M : Value} {L : List UInt8} {a : Nat} {w : World} (h : TRow b gL cap M L a w) : TRow b gL cap M L a w.drew := ⟨h.c0, h.c1, h.c2, h.fz, h.let_, h.lfz, h.ne, h.len, h.col⟩
theorem TRow.lt {b gL cap : Nat} {M : Value} {L : List UInt8} {a : Nat} {w : World} (h : TRow b gL cap M L a w) : b < w.heap.size ∧ gL < w.heap.size :=
  ⟨World.block_lt_of_cell? w _ h.c0, by
    obtain ⟨x, hx⟩ : ∃ x, L[0]? = some x := ⟨_, List.getElem?_eq_getElem (by rw [h.len]; omega)⟩
    exact World.block_lt_of_cell? w _ (h.let_ 0 x hx)⟩
theorem TRow.below {b gL cap : Nat} {M : Value} {L : List UInt8} {a : Nat} {w w' : World} (h : TRow b gL cap M L a w) (hb : Below w.heap.size w w') : TRow b gL cap M L a w' :=
  ⟨cell_step h.c0 hb, cell_step h.c1 hb, cell_step h.c2 hb, (hb.frozen (p := ⟨b, 1, none⟩) h.lt.1).trans h.fz, fun j x hx => cell_step (h.let_ j x hx) hb, fun j => (hb.frozen (p := ⟨gL, j, none⟩) h.lt.2).trans (h.lfz j), h.ne, h.len, h.col⟩
theorem TRow.put {b gL cap : Nat} {M : Value} {L : List UInt8} {a : Nat} {w : World} (h : TRow b gL cap M L a w) {i : Nat} (hi : i < 30) (x : UInt8) : TRow b gL cap M (L.set i x) a (w.setCell ⟨gL, i, none⟩ (.int .i32 (x.toNat : Int))) := by
  have hne : ∀ o, (⟨gL, i, none⟩ : Addr) ≠ ⟨b, o, none⟩ := fun o e => h.ne (congrArg Addr.block e).symm
  obtain ⟨x0, hx0⟩ : ∃ x, L[i]? = some x := ⟨_, List.getElem?_eq_getElem (by rw [h.len]; omega)⟩
  have hc := h.let_ i x0 hx0
  refine ⟨(World.cell?_setCell_other _ _ _ _ (hne 0)).trans h.c0, (World.cell?_setCell_other _ _ _ _ (hne 1)).trans h.c1, (World.cell?_setCell_other _ _ _ _ (hne 2)).trans h.c2, by rw [World.frozen?_setCell]; exact h.fz, fun j y hy => ?_, fun j => by rw [World.frozen?_setCell]; exact h.lfz j, h.ne, by rw [List.length_set]; exact h.len, h.col⟩
  by_cases e : i = j
  · subst e
    rw [List.getElem?_set_self (by rw [h.len]; omega)] at hy
    cases hy
    exact World.cell?_setCell_same' _ _ _ (by rw [hc]; rfl)
  · rw [List.getElem?_set_ne e] at hy
    rw [World.cell?_setCell_other _ _ _ _ (fun e2 => e (congrArg Addr.off e2))]
    exact h.let_ j y hy
theorem TRow.move {b gL cap : Nat} {M : Value} {L : List UInt8} {a : Nat} {w : World} (h : TRow b gL cap M L a w) {n : Nat} (hn : n ≤ 30) : TRow b gL cap M L n (w.setCell ⟨b, 1, none⟩ (.int .i64 (n : Int))) := by
  have hne : ∀ o, o ≠ 1 → (⟨b, 1, none⟩ : Addr) ≠ ⟨b, o, none⟩ := fun o ho e => ho (congrArg Addr.off e).symm
  have hne2 : ∀ j, (⟨b, 1, none⟩ : Addr) ≠ ⟨gL, j, none⟩ := fun j e => h.ne (congrArg Addr.block e)
  exact ⟨(World.cell?_setCell_other _ _ _ _ (hne 0 (by omega))).trans h.c0, World.cell?_setCell_same' _ _ _ (by rw [h.c1]; rfl), (World.cell?_setCell_other _ _ _ _ (hne 2 (by omega))).trans h.c2, by rw [World.frozen?_setCell]; exact h.fz,
    fun j x hx => (World.cell?_setCell_other _ _ _ _ (hne2 j)).trans (h.let_ j x hx), fun j => by rw [World.frozen?_setCell]; exact h.lfz j, h.ne, h.len, hn⟩
/-- A letter is typed, or cannot be. -/
def TlOut (Bb b gL cap : Nat) (M : Value) (L : List UInt8) (a : Nat) (c : UInt8) (w : World) (e : Ending) (w' : World) : Prop :=
  Below Bb w w' ∧ if a = 30 ∨ ¬ (L.getD a 0).toNat = 32 then e = .returned (.bool false) else e = .returned (.bool true) ∧ TRow b gL cap M (L.set a c) (a + 1) w'
set_option maxHeartbeats 2400000 in
theorem tl11 (Bb b gL cap : Nat) (M : Value) (L : List UInt8) (a : Nat) (c : UInt8) (hcap : 30 ≤ cap) (w : World) (h : TRow b gL cap M L a w) (hb : Bb ≤ b) (hg : Bb ≤ gL) :
    Calls Tryd.prog 26 #[.pointer (some ⟨b, 0, none⟩), .int .i32 (c.toNat : Int)] w (TlOut Bb b gL cap M L a c w) := by
  have hlt := h.lt
  have k0 := h.c0
  have k1 := h.c1
  have k2 := h.c2
  have kf := h.fz
  have hcol := h.col
  by_cases h30 : a = 30
  · have g1 : ((a : Int) == 30) = true := beq_iff_eq.2 (by omega)
    have g2 : (a == 30) = true := beq_iff_eq.2 h30
    have hp : Hid (a = 30 ∨ ¬ (L.getD a 0).toNat = 32) := Lib.hid (.inl h30)
    replace h30 := Lib.hid h30
    replace h := Lib.hid h
    go_enter Tryd.func26, Tryd.ntmps26
    go_wp2_with fail
    go_quiet (fail)
    go_wp2
    go_ret
    exact ⟨below_drewN (Below.refl Bb w) _, by rw [if_pos hp.out]; rfl⟩
  · have g1 : ((a : Int) == 30) = false := beq_eq_false_iff_ne.2 (by omega)
    have g2 : (a == 30) = false := beq_eq_false_iff_ne.2 h30
    have ha0 : (0 : Int) ≤ (a : Int) := Int.natCast_nonneg _
    have ha1 : (a : Int) < 30 := by omega
    obtain ⟨y, hx⟩ : ∃ y, L[a]? = some y := ⟨_, List.getElem?_eq_getElem (by rw [h.len]; omega)⟩
    have kl := h.let_ a _ hx
    have klf := h.lfz a
    have hgd : L.getD a 0 = y := by rw [List.getD, hx]; rfl
    have hwr : IntKind.i64.wrap ((a : Int) + 1) = ((a + 1 : Nat) : Int) := by rw [IntWalk.i64_in _ (by omega)]; omega
    by_cases h32 : y.toNat = 32
    · have b1 : ((y.toNat : Int) == 32) = true := beq_iff_eq.2 (by omega)
      have b2 : ((y.toNat : Int) != 32) = false := by rw [bne, b1]; rfl
      have b3 : (y.toNat == 32) = true := beq_iff_eq.2 h32
      have hp : Hid (¬ (a = 30 ∨ ¬ (L.getD a 0).toNat = 32)) := Lib.hid (by rw [hgd]; rintro (e | e); exact h30 e; exact e h32)
      replace h32 := Lib.hid h32
      replace h := Lib.hid h
      replace hwr := Lib.hid hwr
      replace hx := Lib.hid hx
      clear hgd
      go_enter Tryd.func26, Tryd.ntmps26
      go_wp2_with fail
      go_quiet (fail)
      have h1 := h.out.drew nq
      have hbd := Lib.hid (below_drewN (Below.refl Bb w) nq)
      obtain ⟨w1, hw1⟩ : ∃ w1, w.drewN nq = w1 := ⟨_, rfl⟩
      rw [hw1] at h1 hbd ⊢
      clear hw1 k0 k1 k2 kf kl klf
      have hput := h1.put (i := a) (by omega) c
      have k0 := h1.c0
      have k1 := h1.c1
      have k2 := h1.c2
      have kl := h1.let_ a y hx.out
      have klf := h1.lfz a
      have hlt1 := h1.lt
      replace hput := Lib.hid hput
      replace h1 := Lib.hid h1
      go_wp2
      go_region
      have hb2 := Lib.hid ((hbd.out.setCell (p := ⟨gL, a, none⟩) hg (.int .i32 (c.toNat : Int))).drew)
      have h2 := hput.out.drew1
      obtain ⟨w2, hw2⟩ : ∃ w2, (w1.setCell ⟨gL, a, none⟩ (.int .i32 (c.toNat : Int))).drew = w2 := ⟨_, rfl⟩
      rw [hw2] at h2 hb2 ⊢
      clear hw2 k0 k1 k2 kl klf hput
      have hmv := Lib.hid (h2.move (n := a + 1) (by omega))
      have q1 := h2.c1
      have qf := h2.fz
      have hlt2 := h2.lt
      have ecast : ((a : Int) + 1) = ((a + 1 : Nat) : Int) := by omega
      replace ecast := Lib.hid ecast
      replace h2 := Lib.hid h2
      go_wp2
      go_ret
      refine ⟨hb2.out.setCell (p := ⟨b, 1, none⟩) hb _, ?_⟩
      rw [if_neg hp.out, ecast.out]
      exact ⟨rfl, hmv.out⟩
    · have b1 : ((y.toNat : Int) == 32) = false := beq_eq_false_iff_ne.2 (by omega)
      have b2 : ((y.toNat : Int) != 32) = true := by rw [bne, b1]; rfl
      have b3 : (y.toNat == 32) = false := beq_eq_false_iff_ne.2 h32
      have hp : Hid (a = 30 ∨ ¬ (L.getD a 0).toNat = 32) := Lib.hid (.inr (by rw [hgd]; exact h32))
      replace h32 := Lib.hid h32
      replace h := Lib.hid h
      clear hgd hx hwr
      go_enter Tryd.func26, Tryd.ntmps26
      go_wp2_with fail
      go_quiet (fail)
      go_wp2
      go_ret
      exact ⟨below_drewN (Below.refl Bb w) _, by rw [if_pos hp.out]; rfl⟩
end Go.Proofs.YtcmmcgjpaabnoaaDoor
