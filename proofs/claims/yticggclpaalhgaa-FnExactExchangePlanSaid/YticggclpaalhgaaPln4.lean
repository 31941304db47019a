/- ExchangePlan: the program's function. -/
import Derived.Test.YticggclpaalhgaaPln2
import Derived.Test.YticggclpaalhgaaPln3
import Derived.Test.YticggclpaalhgaaCmp
namespace Go.Proofs.Yticggclpaalhgaa
open Go.RowKit Go.ChangeShapes Go.WideShapes Go.Deep
set_option linter.unusedVariables false
set_option linter.unusedSimpArgs false

theorem idx_is : ∀ {l : List UInt8} {x : UInt8}, x ∈ l → ∃ k : Nat, Lib.indexByte l x = (k : Int) ∧ l[k]? = some x
  | b :: l, x, h => by
    by_cases e : b = x
    · subst e
      exact ⟨0, by simp [Lib.indexByte], rfl⟩
    · obtain ⟨k, h1, h2⟩ := idx_is (l := l) (x := x) (by simpa [Ne.symm e] using h)
      refine ⟨k + 1, ?_, by simpa using h2⟩
      have h3 : (b == x) = false := beq_eq_false_iff_ne.2 e
      have h4 : ((k : Int) == -1) = false := beq_eq_false_iff_ne.2 (by omega)
      simp only [Lib.indexByte, h3, h1, h4]
      simp
theorem bidx_any (G c : Nat) (l : List UInt8) (x : UInt8) (w : World) (h : BRow w G l) :
    Calls Try.prog 68 #[.slice (some ⟨G, 0, none⟩) l.length c, .int .u8 (x.toNat : Int)] w fun e w' => e = .returned (.int .i64 (Lib.indexByte l x)) ∧ w' = w := by
  refine (Try.bytes_IndexByte G 0 l.length c (l.map fun b => (b.toNat : Int)) (x.toNat : Int) w (by simp) (fun i hi => ?_)).mono fun e w' hh => ?_
  · rw [Nat.zero_add, h.cell i _ (List.getElem?_eq_getElem hi)]
    simp [List.getD_eq_getElem?_getD, hi]
  · obtain ⟨h1, h2⟩ := hh
    refine ⟨?_, h2⟩
    rw [h1]
    have e1 : Lib.bytesOf (l.map fun b => (b.toNat : Int)) = l := by
      unfold Lib.bytesOf
      rw [List.map_map]
      exact (List.map_congr_left (fun b _ => by simp)).trans (List.map_id l)
    rw [e1]
    simp

/-- Between the rounds: the keys in hand in block G, the plan so far. -/
structure PiW (w0 wr : World) (G : Nat) (V : Value) (L : List ByteArray) (l : List UInt8) : Prop where
  bel : Below w0.heap.size w0 wr
  keys : BRow wr G l
  geG : w0.heap.size ≤ G
  ltG : G < wr.heap.size
  out : wr.ownsRow w0.heap.size 9 1 V L.length (L.flatMap strC)
  apart : ∀ g, V.ownBlock = some g → g ≠ G
theorem PiW.same {w0 wr w' : World} {G : Nat} {V : Value} {L : List ByteArray} {l : List UInt8} (h : PiW w0 wr G V L l) (hh : w'.heap = wr.heap) (hb : Below w0.heap.size w0 w') : PiW w0 w' G V L l := by
  refine ⟨hb, ⟨fun i b hi => ?_, fun i hi => ?_⟩, h.geG, by rw [hh]; exact h.ltG, own_block6 h.out (fun g _ => by rw [hh]), h.apart⟩
  · exact (World.cell?_of_block (a := ⟨G, i, none⟩) (by rw [hh])).trans (h.keys.cell i b hi)
  · exact (World.frozen?_of_block (a := ⟨G, i, none⟩) (by rw [hh])).trans (h.keys.free i hi)
theorem PiW.below {w0 wr w' : World} {G : Nat} {V : Value} {L : List ByteArray} {l : List UInt8} (h : PiW w0 wr G V L l) (hb : Below wr.heap.size wr w') : PiW w0 w' G V L l := by
  refine ⟨h.bel.trans (hb.mono h.bel.size), ⟨fun i b hi => ?_, fun i hi => ?_⟩, h.geG, Nat.lt_of_lt_of_le h.ltG hb.size, own_block6 h.out (fun g hg => hb.block g (own_lt6 h.out hg)), h.apart⟩
  · exact (World.cell?_of_block (a := ⟨G, i, none⟩) (hb.block G h.ltG)).trans (h.keys.cell i b hi)
  · exact (World.frozen?_of_block (a := ⟨G, i, none⟩) (hb.block G h.ltG)).trans (h.keys.free i hi)
/-- The plan grows. -/
theorem PiW.push {w0 wr w4 : World} {G : Nat} {V V' : Value} {L L' : List ByteArray} {l : List UInt8} (h : PiW w0 wr G V L l) (hg : wr.grownBy w4 V.ownBlock) {g' : Nat} (hV : V'.ownBlock = some g') (hlie : V.ownBlock = some g' ∨ g' = wr.heap.size)
    (hrow : w4.ownsRow w0.heap.size 9 1 V' L'.length (L'.flatMap strC)) : PiW w0 w4 G V' L' l := by
  have hk : w4.heap[G]? = wr.heap[G]? := hg.block G h.ltG (fun e => h.apart G e.symm rfl)
  refine ⟨Below.grown h.bel hg h.bel.size (fun g hg' => own_ge6 h.out hg'), ⟨fun i b hi => ?_, fun i hi => ?_⟩, h.geG, Nat.lt_of_lt_of_le h.ltG hg.size, hrow, ?_⟩
  · exact (World.cell?_of_block (a := ⟨G, i, none⟩) hk).trans (h.keys.cell i b hi)
  · exact (World.frozen?_of_block (a := ⟨G, i, none⟩) hk).trans (h.keys.free i hi)
  · intro g hgv
    rw [hV] at hgv
    cases hgv
    rcases hlie with e | e
    · exact h.apart _ e
    · have := h.ltG; omega
/-- A key is written. -/
theorem PiW.set {w0 wr : World} {G : Nat} {V : Value} {L : List ByteArray} {l : List UInt8} (h : PiW w0 wr G V L l) {i : Nat} {b : UInt8} (hi : i < l.length) : PiW w0 (wr.setCell ⟨G, i, none⟩ (.int .u8 (b.toNat : Int))) G V L (l.set i b) :=
  ⟨h.bel.setCell (p := ⟨G, i, none⟩) h.geG _, h.keys.set hi, h.geG, by simpa using h.ltG, own_block6 h.out (fun g hg => Below.heap_setCell _ _ _ _ (h.apart g hg)), h.apart⟩
end Go.Proofs.Yticggclpaalhgaa
