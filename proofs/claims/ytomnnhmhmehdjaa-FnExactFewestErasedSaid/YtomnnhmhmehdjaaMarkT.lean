/- The law's own marks for texts: the letter m and a number in decimal. -/
import Derived.Test.YtomnnhmhmehdjaaProg
import Derived.Test.YtomnnhmhmehdjaaRows0
import Derived.WalkKit
import Derived.ProofKit
import Derived.Outline
import Derived.LoopTactic
import Derived.Below
import Derived.Lib.Hide
import Derived.Laws.OwnMore
import Derived.OwnWalk
import Derived.WalkSpells
import Derived.Laws.IdiomStrings
namespace Go.Proofs.Ytomnnhmhmehdjaa
open Go.RowKit
set_option linter.unusedVariables false
set_option linter.unusedSimpArgs false

/-- The digits of u, at most f of them. -/
def digF : Nat → Nat → List UInt8
  | 0, _ => []
  | f + 1, u => if u = 0 then [] else digF f (u / 10) ++ [UInt8.ofNat (48 + u % 10)]
theorem digF_zero (f : Nat) : digF f 0 = [] := by cases f <;> simp [digF]
def markT (k : Int) : ByteArray := ⟨(109 :: digF 64 k.toNat).toArray⟩
theorem markT_cons (b : UInt8) (l : List UInt8) : (⟨#[b]⟩ : ByteArray) ++ ⟨l.toArray⟩ = ⟨(b :: l).toArray⟩ := by
  apply ByteArray.ext
  simp
theorem digit_cell (d : Nat) (h : d < 10) : ((UInt8.ofNat (48 + d)).toNat : Int) = 48 + (d : Int) := by
  simp
  omega
theorem ret_st {a b : ByteArray} (h : a = b) : Ending.returned (.string a) = .returned (.string b) := by rw [h]

set_option maxRecDepth 100000 in
set_option maxHeartbeats 1600000 in
theorem markText_any (k : Nat) (w : World) (h0 : 1 ≤ k) (h1 : k ≤ 2199023255552) :
    Calls Try.prog 71 #[.int .i64 (k : Int)] w fun e w' => e = .returned (.string (markT k)) ∧ Below w.heap.size w w' := by
  have hpos : decide ((k : Int) ≤ 0) = false := decide_eq_false (by omega)
  have hk1 : (1 : Int) ≤ (k : Int) := by omega
  have hk00 : decide (k = 0) = false := decide_eq_false (by omega)
  go_enter Try.func71, Try.ntmps71
  go_wp2
  go_loopw [0, 3] (fun kv out wr => ∃ (u f : Nat) (ds : List UInt8), kv = .int .i64 u ∧ u ≤ k ∧ out = .string ⟨ds.toArray⟩ ∧ u < 10 ^ f ∧ ds.length + f = 64 ∧ digF 64 k = digF f u ++ ds ∧ Below w.heap.size w wr) (fun kv _ _ => (intOf kv).toNat)
  case atStart => exact ⟨k, 64, [], rfl, Nat.le_refl _, rfl, by omega, rfl, by simp, Below.refl _ _⟩
  case round =>
    obtain ⟨u, f, ds, rfl, hu, rfl, hf, hdf, he, hbw⟩ := hrel
    have hds : ds.length ≤ 64 := by omega
    replace hdf := Lib.hid hdf
    replace he := Lib.hid he
    by_cases hz : u = 0
    · have hres : Hid ((⟨#[109]⟩ : ByteArray) ++ ⟨ds.toArray⟩ = markT k) := Lib.hid (by
        rw [markT_cons, markT, Int.toNat_natCast, he.out, hz, digF_zero]
        rfl)
      have hg : decide (0 < u) = false := decide_eq_false (by omega)
      have hg2 : decide ((0 : Int) < (u : Int)) = false := decide_eq_false (by omega)
      replace hf := Lib.hid hf
      replace hz := Lib.hid hz
      go_wp2
      go_ret
      exact ⟨ret_st hres.out, hbw⟩
    · obtain ⟨f', rfl⟩ : ∃ f', f = f' + 1 := ⟨f - 1, by
        cases f with
        | zero => simp at hf; omega
        | succ f => rfl⟩
      have hnx : Hid (digF 64 k = digF f' (u / 10) ++ (UInt8.ofNat (48 + u % 10) :: ds)) := Lib.hid (by
        rw [he.out, digF, if_neg hz, List.append_assoc]
        rfl)
      have hf2 : Hid (u / 10 < 10 ^ f') := Lib.hid (by rw [Nat.pow_succ] at hf; omega)
      replace hf := Lib.hid hf
      have hu1 : 0 < u := by omega
      have hd0 : 0 ≤ (u : Int) % 10 := by omega
      have hd9 : (u : Int) % 10 ≤ 9 := by omega
      have hc0 : (wr.alloc (.cells #[.int .u8 (48 + (u : Int) % 10)] 5)).cell? ⟨wr.heap.size, 0, none⟩ = some (.int .u8 (48 + (u : Int) % 10)) := by
        rw [World.cell?_alloc_at _ _ _ _ rfl]; rfl
      have hconv := run_convert_bytes_back (P := Try.prog) (wr.alloc (.cells #[.int .u8 (48 + (u : Int) % 10)] 5)) 78 9 5 ⟨wr.heap.size, 0, none⟩ 1 [UInt8.ofNat (48 + u % 10)] Try.underlying78 Try.underlying5 Try.underlying9 (fun j hj => by
        obtain rfl : j = 0 := by simpa using hj
        have e := digit_cell (u % 10) (by omega)
        simp only [List.getElem_cons_zero]
        rw [e]
        simp [Addr.add])
      simp only [List.length_cons, List.length_nil, Nat.zero_add] at hconv
      have hb1 := hbw.step (below_a1 wr (.cells #[.int .u8 (48 + (u : Int) % 10)] 5))
      replace hb1 := Lib.hid hb1
      have hdf2 : Hid ((UInt8.ofNat (48 + u % 10) :: ds).length + f' = 64) := Lib.hid (by have := hdf.out; simp; omega)
      have hstr : Hid (Value.string ((⟨#[48 + UInt8.ofNat (u % 10)]⟩ : ByteArray) ++ ⟨ds.toArray⟩) = .string ⟨(UInt8.ofNat (48 + u % 10) :: ds).toArray⟩) := Lib.hid (by
        rw [markT_cons, show UInt8.ofNat (48 + u % 10) = 48 + UInt8.ofNat (u % 10) from by simp])
      have hu10 : Hid (u / 10 ≤ k) := Lib.hid (by omega)
      have hms : Hid (u / 10 < u) := Lib.hid (by omega)
      clear hc0
      go_wp2
      go_roundw
      case rel => exact ⟨u / 10, f', UInt8.ofNat (48 + u % 10) :: ds, by go_num, hu10.out, hstr.out, hf2.out, hdf2.out, hnx.out, hb1.out⟩
      case measure =>
        have := hms.out
        simp [intOf]
        omega
theorem markText_int (k : Int) (w : World) (h0 : 1 ≤ k) (h1 : k ≤ 2199023255552) :
    Calls Try.prog 71 #[.int .i64 k] w fun e w' => e = .returned (.string (markT k)) ∧ Below w.heap.size w w' := by
  obtain ⟨n, rfl⟩ := Int.eq_ofNat_of_zero_le (show 0 ≤ k by omega)
  exact markText_any n w (by omega) (by omega)
end Go.Proofs.Ytomnnhmhmehdjaa
