/- Rows of bytes that a call owns. (Out of Line0, for seats without its imports.) -/
import Derived.Test.YtgiphckiiapcaaaOwn0
import Derived.Test.YtgiphckiiapcaaaProg
import Derived.OwnWalk
import Derived.WalkKit
import Derived.ProofKit
import Derived.Laws.OwnMore
namespace Go.Proofs.Ytgiphckiiapcaaa
open Go.RowKit Go.ChangeShapes Go.WideShapes Go.Deep
set_option linter.unusedVariables false
set_option linter.unusedSimpArgs false

def byteU (b : UInt8) : Value := .int .u8 (b.toNat : Int)
/-- The bytes of a row that the call owns. -/
abbrev OBytes (w : World) (base : Nat) (v : Value) (l : List UInt8) : Prop := w.ownsRow base 5 1 v l.length (l.map byteU)
def lenV : Value → Nat
  | .slice _ n _ => n
  | _ => 0
theorem obytes_len {w : World} {base : Nat} {v : Value} {l : List UInt8} (h : OBytes w base v l) : lenV v = l.length ∧ ∃ A c, v = .slice A l.length c := by
  obtain ⟨_, ⟨rfl, hn⟩ | ⟨g, cap, cur, rfl, _⟩⟩ := h
  · exact ⟨hn.symm, none, 0, by rw [hn]⟩
  · exact ⟨rfl, _, _, rfl⟩
/-- A row that is not empty: where its bytes lie, and what a store leaves. -/
theorem obytes_at {w : World} {base : Nat} {v : Value} {l : List UInt8} (h : OBytes w base v l) (hl : 0 < l.length) :
    ∃ g cap, v = .slice (some ⟨g, 0, none⟩) l.length cap ∧ base ≤ g ∧ g < w.heap.size ∧ (∀ i b, l[i]? = some b → w.cell? ⟨g, i, none⟩ = some (.int .u8 (b.toNat : Int))) ∧ (∀ i, w.frozen? ⟨g, i, none⟩ = false) ∧
      ∀ i b, i < l.length → OBytes (w.setCell ⟨g, i, none⟩ (.int .u8 (b.toNat : Int))) base v (l.set i b) := by
  obtain ⟨hlen, ⟨rfl, hn⟩ | ⟨g, cap, cur, rfl, hb, hg, hc, hm, hs, ht⟩⟩ := h
  · omega
  · refine ⟨g, cap, rfl, hb, (Array.getElem?_eq_some_iff.1 hg).1, fun i b hi => ?_, fun i => by simp [World.frozen?, hg], fun i b hi => ?_⟩
    · have h1 : (l.map byteU)[i]? = some (byteU b) := by simp [hi]
      have hil : i < l.length := (List.getElem?_eq_some_iff.1 hi).1
      rw [← ht, List.getElem?_take] at h1
      rw [if_pos (by omega)] at h1
      simp [World.cell?, hg]
      simpa [byteU] using h1
    · refine ⟨by simp, .inr ⟨g, cap, cur.setIfInBounds i (byteU b), by simp, hb, ?_, by simpa using hc, hm, by simpa using hs, ?_⟩⟩
      · simp [World.setCell, Array.getElem?_modify, hg, byteU]
      · rw [Array.toList_setIfInBounds, List.take_set, List.map_set]
        simp only [List.length_set]
        rw [ht]
theorem obytes_conv {w : World} {base : Nat} {v : Value} {l : List UInt8} (h : OBytes w base v l) : (convert 22 9 v).run Try.prog w = .ok (.string ⟨l.toArray⟩) w := by
  rcases Nat.eq_zero_or_pos l.length with h0 | h0
  · obtain rfl := List.length_eq_zero_iff.1 h0
    obtain ⟨hlen, ⟨rfl, hn⟩ | ⟨g, cap, cur, rfl, hb, hg, hc, hm, hs, ht⟩⟩ := h
    · have := run_convert_bytes_string (P := Try.prog) w 22 9 5 none 0 0 Try.underlying22 Try.underlying5 Try.underlying9
      rw [this]
      rfl
    · exact run_convert_bytes_back (P := Try.prog) w 22 9 5 ⟨g, 0, none⟩ cap [] Try.underlying22 Try.underlying5 Try.underlying9 (fun j hj => by simp at hj)
  · obtain ⟨g, cap, rfl, _, _, hc, _⟩ := obytes_at h h0
    exact run_convert_bytes_back (P := Try.prog) w 22 9 5 ⟨g, 0, none⟩ cap l Try.underlying22 Try.underlying5 Try.underlying9 (fun j hj => by
      have := hc j l[j] (List.getElem?_eq_getElem hj)
      rw [← this]
      unfold Addr.add
      split
      · rename_i e; rw [e]
      · simp)
theorem Try.infoU8 : (Try.prog.info? 5).map (fun i => (i.zero, i.size, i.bytes)) = some (some (.int .u8 0), 1, 1) := by kernel_rfl
end Go.Proofs.Ytgiphckiiapcaaa
