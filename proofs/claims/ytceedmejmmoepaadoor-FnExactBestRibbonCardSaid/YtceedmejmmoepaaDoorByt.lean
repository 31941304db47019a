/- Rows of bytes that a call owns, on their own; blanks. -/
import Derived.Test.YtceedmejmmoepaaDoorOwn8
import Derived.Test.YtceedmejmmoepaaDoorTxtB
namespace Go.Proofs.YtceedmejmmoepaaDoor
open Go.RowKit Go.ChangeShapes Go.WideShapes Go.Deep
set_option linter.unusedVariables false
set_option linter.unusedSimpArgs false

def bytU (b : UInt8) : Value := .int .u8 (b.toNat : Int)
/-- The bytes of a row that the call owns. -/
abbrev OByt (w : World) (base : Nat) (v : Value) (l : List UInt8) : Prop := w.ownsRow base 5 1 v l.length (l.map bytU)
theorem Tryd.infoByt : (Tryd.prog.info? 5).map (fun i => (i.zero, i.size, i.bytes)) = some (some (.int .u8 0), 1, 1) := by kernel_rfl
theorem byt_form {w : World} {base : Nat} {v : Value} {l : List UInt8} (h : OByt w base v l) : ∃ A c, v = .slice A l.length c := by
  obtain ⟨_, ⟨rfl, hn⟩ | ⟨g, cap, cur, rfl, _⟩⟩ := h
  · exact ⟨none, 0, by rw [hn]⟩
  · exact ⟨_, _, rfl⟩
theorem byt_conv {w : World} {base : Nat} {v : Value} {l : List UInt8} (h : OByt w base v l) : (convert 73 9 v).run Tryd.prog w = .ok (.string ⟨l.toArray⟩) w := by
  obtain ⟨hlen, ⟨rfl, hn⟩ | ⟨g, cap, cur, rfl, hb, hg, hc, hm, hs, ht⟩⟩ := h
  · obtain rfl := List.length_eq_zero_iff.1 hn
    have := run_convert_bytes_string (P := Tryd.prog) w 73 9 5 none 0 0 Tryd.underlying73 Tryd.underlying5 Tryd.underlying9
    rw [this]
    rfl
  · exact run_convert_bytes_back (P := Tryd.prog) w 73 9 5 ⟨g, 0, none⟩ cap l Tryd.underlying73 Tryd.underlying5 Tryd.underlying9 (fun j hj => by
      have h1 : (l.map bytU)[j]? = some (bytU l[j]) := by simp [hj]
      rw [← ht, List.getElem?_take, if_pos (by omega)] at h1
      have h2 : w.cell? ⟨g, j, none⟩ = some (.int .u8 (l[j].toNat : Int)) := by
        simp [World.cell?, hg]
        simpa [bytU] using h1
      rw [← h2]
      unfold Addr.add
      split
      · rename_i e; rw [e]
      · simp)
theorem byt_one (x : Int) : ∀ u ∈ [Value.int .u8 x], u.oneCell' = true := by
  intro u hu
  simp only [List.mem_cons, List.not_mem_nil, or_false] at hu
  rcases hu with rfl; rfl
theorem byt_new (w : World) : OByt (w.alloc (.cells #[] 5)) w.heap.size (.slice (some ⟨w.heap.size, 0, none⟩) 0 0) [] := owns_new8 w 5
theorem byt_nil (w : World) (base : Nat) : OByt w base (.slice none 0 0) [] := owns_nil8 w base _
theorem byt_add (l : List UInt8) (b : UInt8) (x : Int) (h : (b.toNat : Int) = x) : (l ++ [b]).map bytU = l.map bytU ++ [.int .u8 x] := by
  subst h
  simp [bytU]
def repB (b : UInt8) (n : Nat) : ByteArray := ⟨(List.replicate n b).toArray⟩
theorem repB_size (b : UInt8) (n : Nat) : (repB b n).size = n := by simp [repB, ByteArray.size]
theorem bytes_eq {a b : ByteArray} (h : a.data.toList = b.data.toList) : a = b := by
  cases a; cases b
  simp only [ByteArray.mk.injEq]
  exact Array.ext' h
theorem repB_zero (b : UInt8) : repB b 0 = ⟨#[]⟩ := rfl
def bAt (s : ByteArray) (i : Nat) : UInt8 := s.data.toList.getD i 0
theorem bAt_eq {s : ByteArray} {i : Nat} (h : i < s.size) : bAt s i = s[i]'h := by
  rw [bAt, List.getD, byte_of h]; rfl
theorem own_mono10 {w : World} {base base' : Nat} {E : TypeId} {size n : Nat} {v : Value} {xs : List Value} (h : w.ownsRow base E size v n xs) (hb : base' ≤ base) : w.ownsRow base' E size v n xs :=
  ⟨h.1, h.2.elim .inl (fun ⟨g, cap, cur, h1, h2, h3⟩ => .inr ⟨g, cap, cur, h1, Nat.le_trans hb h2, h3⟩)⟩
theorem own_keep10 {w w' : World} {base : Nat} {e : TypeId} {size n : Nat} {v : Value} {xs : List Value} (h : w.ownsRow base e size v n xs) (hb : Below w.heap.size w w') : w'.ownsRow base e size v n xs :=
  h.kept (grown_below hb none) (by cases v.ownBlock <;> simp)
theorem below_step10 {B : Nat} {a b c : World} (h : Below B a b) (k : Below b.heap.size b c) (hB : B ≤ b.heap.size) : Below B a c := h.trans (k.mono hB)
theorem quo10 (a g : Nat) : ((a : Int).tdiv (g : Int)) = ((a / g : Nat) : Int) := (Int.ofNat_tdiv a g).symm
theorem quo2 (a : Nat) : ((a : Int).tdiv 2) = ((a / 2 : Nat) : Int) := quo10 a 2
theorem rem2 (a : Nat) : ((a : Int).tmod 2) = ((a % 2 : Nat) : Int) := (Int.ofNat_tmod a 2).symm
theorem ret_s10 {p : ByteArray × Int} {a : ByteArray} {b : Int} (h : p = (a, b)) : Ending.returned (.tuple #[.string a, .int .i64 b]) = .returned (.tuple #[.string p.1, .int .i64 p.2]) := by rw [h]
end Go.Proofs.YtceedmejmmoepaaDoor
