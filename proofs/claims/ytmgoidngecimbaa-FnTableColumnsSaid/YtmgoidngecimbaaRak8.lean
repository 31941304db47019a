/- Rows of bytes that a call owns; texts of racks. -/
import Derived.Test.YtmgoidngecimbaaOwn8
import Derived.Test.YtmgoidngecimbaaBuild
import Derived.Test.YtmgoidngecimbaaTab1
namespace Go.Proofs.Ytmgoidngecimbaa
open Go.RowKit Go.ChangeShapes Go.WideShapes Go.Deep
set_option linter.unusedVariables false
set_option linter.unusedSimpArgs false

def byteU8 (b : UInt8) : Value := .int .u8 (b.toNat : Int)
/-- The bytes of a row that the call owns. -/
abbrev OByt8 (w : World) (base : Nat) (v : Value) (l : List UInt8) : Prop := w.ownsRow base 5 1 v l.length (l.map byteU8)
def lenV8 : Value → Nat
  | .slice _ n _ => n
  | _ => 0
theorem obyt8_len {w : World} {base : Nat} {v : Value} {l : List UInt8} (h : OByt8 w base v l) : lenV8 v = l.length ∧ ∃ A c, v = .slice A l.length c := by
  obtain ⟨_, ⟨rfl, hn⟩ | ⟨g, cap, cur, rfl, _⟩⟩ := h
  · exact ⟨hn.symm, none, 0, by rw [hn]⟩
  · exact ⟨rfl, _, _, rfl⟩
/-- A row that is not empty: where its bytes lie, and what a store leaves. -/
theorem obyt8_at {w : World} {base : Nat} {v : Value} {l : List UInt8} (h : OByt8 w base v l) (hl : 0 < l.length) :
    ∃ g cap, v = .slice (some ⟨g, 0, none⟩) l.length cap ∧ base ≤ g ∧ g < w.heap.size ∧ (∀ i b, l[i]? = some b → w.cell? ⟨g, i, none⟩ = some (.int .u8 (b.toNat : Int))) ∧ (∀ i, w.frozen? ⟨g, i, none⟩ = false) ∧
      ∀ i b, i < l.length → OByt8 (w.setCell ⟨g, i, none⟩ (.int .u8 (b.toNat : Int))) base v (l.set i b) := by
  obtain ⟨hlen, ⟨rfl, hn⟩ | ⟨g, cap, cur, rfl, hb, hg, hc, hm, hs, ht⟩⟩ := h
  · omega
  · refine ⟨g, cap, rfl, hb, (Array.getElem?_eq_some_iff.1 hg).1, fun i b hi => ?_, fun i => by simp [World.frozen?, hg], fun i b hi => ?_⟩
    · have h1 : (l.map byteU8)[i]? = some (byteU8 b) := by simp [hi]
      have hil : i < l.length := (List.getElem?_eq_some_iff.1 hi).1
      rw [← ht, List.getElem?_take] at h1
      rw [if_pos (by omega)] at h1
      simp [World.cell?, hg]
      simpa [byteU8] using h1
    · refine ⟨by simp, .inr ⟨g, cap, cur.setIfInBounds i (byteU8 b), by simp, hb, ?_, by simpa using hc, hm, by simpa using hs, ?_⟩⟩
      · simp [World.setCell, Array.getElem?_modify, hg, byteU8]
      · rw [Array.toList_setIfInBounds, List.take_set, List.map_set]
        simp only [List.length_set]
        rw [ht]
theorem obyt8_conv {w : World} {base : Nat} {v : Value} {l : List UInt8} (h : OByt8 w base v l) : (convert 22 9 v).run Try.prog w = .ok (.string ⟨l.toArray⟩) w := by
  rcases Nat.eq_zero_or_pos l.length with h0 | h0
  · obtain rfl := List.length_eq_zero_iff.1 h0
    obtain ⟨hlen, ⟨rfl, hn⟩ | ⟨g, cap, cur, rfl, hb, hg, hc, hm, hs, ht⟩⟩ := h
    · have := run_convert_bytes_string (P := Try.prog) w 22 9 5 none 0 0 Try.underlying22 Try.underlying5 Try.underlying9
      rw [this]
      rfl
    · exact run_convert_bytes_back (P := Try.prog) w 22 9 5 ⟨g, 0, none⟩ cap [] Try.underlying22 Try.underlying5 Try.underlying9 (fun j hj => by simp at hj)
  · obtain ⟨g, cap, rfl, _, _, hc, _⟩ := obyt8_at h h0
    exact run_convert_bytes_back (P := Try.prog) w 22 9 5 ⟨g, 0, none⟩ cap l Try.underlying22 Try.underlying5 Try.underlying9 (fun j hj => by
      have := hc j l[j] (List.getElem?_eq_getElem hj)
      rw [← this]
      unfold Addr.add
      split
      · rename_i e; rw [e]
      · simp)
theorem one8u (x : Int) : ∀ u ∈ [Value.int .u8 x], u.oneCell' = true := by
  intro u hu
  simp only [List.mem_cons, List.not_mem_nil, or_false] at hu
  rcases hu with rfl; rfl
theorem owns_new8u (w : World) : OByt8 (w.alloc (.cells #[] 5)) w.heap.size (.slice (some ⟨w.heap.size, 0, none⟩) 0 0) [] := owns_new8 w 5
theorem byt_snoc (l : List UInt8) (b : UInt8) (x : Int) (h : (b.toNat : Int) = x) : (l ++ [b]).map byteU8 = l.map byteU8 ++ [.int .u8 x] := by
  subst h
  simp [byteU8]
/-- One stop more in the text of a rack. -/
def rstep (acc : List UInt8) (x : Int) : List UInt8 := acc ++ List.replicate (x.toNat - acc.length) 46 ++ [84]
def rackL (ps : List Int) : List UInt8 := ps.foldl rstep []
def rackTx (ps : List Int) : ByteArray := if rackB ps = true then ⟨(rackL ps).toArray⟩ else ByteArray.empty
theorem rackL_take {ps : List Int} {k : Nat} {x : Int} (h : ps[k]? = some x) : rackL (ps.take (k + 1)) = rstep (rackL (ps.take k)) x := by
  rw [rackL, take8 h, List.foldl_append]
  rfl
theorem rstep_len {acc : List UInt8} {x : Int} (h : acc.length ≤ x.toNat) : (rstep acc x).length = x.toNat + 1 := by
  simp [rstep]
  omega
theorem rack_fits {hi : Int} : ∀ {ps : List Int} {lo : Int} {acc : List UInt8}, risesB hi lo ps = true → 0 ≤ lo → acc.length = lo.toNat → ∀ (k : Nat) (x : Int), ps[k]? = some x → ((ps.take k).foldl rstep acc).length ≤ x.toNat
  | [], _, _, _, _, _, k, x, h => by simp at h
  | y :: r, lo, acc, hr, h0, ha, 0, x, h => by
    simp only [risesB, Bool.and_eq_true, inR_iff] at hr
    simp at h
    subst h
    simp
    omega
  | y :: r, lo, acc, hr, h0, ha, k + 1, x, h => by
    simp only [risesB, Bool.and_eq_true, inR_iff] at hr
    simp only [List.getElem?_cons_succ] at h
    simp only [List.take_succ_cons, List.foldl_cons]
    exact rack_fits hr.2 (by omega) (by rw [rstep_len (by omega)]; omega) k x h

theorem BuiltAt8.below {T e : TypeId} {B b : Nat} {p : Value} {bs : List Value} {w w' : World} (h : Lib.BuilderAtF T e B b p bs w) (hb : Below w.heap.size w w') : Lib.BuilderAtF T e B b p bs w' := by
  obtain ⟨hB, v, hbk, hown, hne⟩ := h
  exact ⟨hB, v, (hb.block _ (Array.getElem?_eq_some_iff.1 hbk).1).trans hbk, hown.kept (grown_below hb none) (by cases v.ownBlock <;> simp), hne⟩
theorem built8_below {T e : TypeId} {B b : Nat} {bs : List Value} {w w' : World} (h : Lib.IsBuilderF T e B b bs w) (hb : Below w.heap.size w w') : Lib.IsBuilderF T e B b bs w' :=
  h.elim (fun h => .inl (BuiltAt8.below h hb)) (fun h => .inr (BuiltAt8.below h hb))
theorem below_step8 {B : Nat} {a b c : World} (h : Below B a b) (k : Below b.heap.size b c) (hB : B ≤ b.heap.size) : Below B a c := h.trans (k.mono hB)
theorem repeat_one8 (b : UInt8) : ∀ c, Lib.repeatL [b] c = List.replicate c b
  | 0 => rfl
  | c + 1 => by rw [Lib.repeatL, repeat_one8 b c]; rfl

end Go.Proofs.Ytmgoidngecimbaa
