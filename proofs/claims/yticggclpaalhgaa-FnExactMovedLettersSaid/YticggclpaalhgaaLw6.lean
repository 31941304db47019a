/- All letters that a function holds for, by ascending bytes: what the program gathers in its Builder. -/
import Derived.Test.YticggclpaalhgaaLet6
import Derived.Test.YticggclpaalhgaaBuild
namespace Go.Proofs.Yticggclpaalhgaa
open Go.RowKit
set_option linter.unusedVariables false
set_option linter.unusedSimpArgs false

theorem BuiltAt.below {T e : TypeId} {B b : Nat} {p : Value} {bs : List Value} {w w' : World} (h : Lib.BuilderAtF T e B b p bs w) (hb : Below w.heap.size w w') : Lib.BuilderAtF T e B b p bs w' := by
  obtain ⟨hB, v, hbk, hown, hne⟩ := h
  exact ⟨hB, v, (hb.block _ (Array.getElem?_eq_some_iff.1 hbk).1).trans hbk, hown.kept (grown_below hb none) (by cases v.ownBlock <;> simp), hne⟩
theorem _root_.Go.Lib.IsBuilderF.below {T e : TypeId} {B b : Nat} {bs : List Value} {w w' : World} (h : Lib.IsBuilderF T e B b bs w) (hb : Below w.heap.size w w') : Lib.IsBuilderF T e B b bs w' :=
  h.elim (fun h => .inl (BuiltAt.below h hb)) (fun h => .inr (BuiltAt.below h hb))
theorem _root_.Go.RowKit.Below.step2 {B : Nat} {a b c : World} (h : Below B a b) (k : Below b.heap.size b c) (hB : B ≤ b.heap.size) : Below B a c := h.trans (k.mono hB)
theorem encode_byte {c : Nat} (h : c < 128) : Utf8.encode (c : Int) = ⟨#[UInt8.ofNat c]⟩ := by
  have hv : Utf8.valid (c : Int) = true := by
    unfold Utf8.valid
    simp
    omega
  unfold Utf8.encode
  simp only [hv, if_true, Int.toNat_natCast, h]
theorem filter_take {f : UInt8 → Bool} {l : List UInt8} {k : Nat} {a : UInt8} (h : l[k]? = some a) : (l.take (k + 1)).filter f = (l.take k).filter f ++ [a].filter f := by
  obtain ⟨h1, rfl⟩ := List.getElem?_eq_some_iff.1 h
  rw [List.take_succ_eq_append_getElem h1, List.filter_append]

set_option maxRecDepth 100000 in
set_option maxHeartbeats 3200000 in
theorem with_moved (f : UInt8 → Bool) (a1 a2 : Value) (w : World)
    (hcl : ∀ c : UInt8, c ∈ rng → ∀ W, Below w.heap.size w W → Calls Try.prog 63 #[.string ⟨#[c]⟩, a1, a2] W fun e w' => e = .returned (.bool (f c)) ∧ Below W.heap.size W w') :
    Calls Try.prog 62 #[.func (.func 63) #[] #[a1, a2]] w fun e w' => e = .returned (.string ⟨(rng.filter f).toArray⟩) ∧ Below w.heap.size w w' := by
  have hcv := fun (W : World) (z : Int) => run_convert_int_string (P := Try.prog) W 21 9 .i32 z (by kernel_rfl) Try.underlying9
  replace hcv := Lib.hid hcv
  replace hcl := Lib.hid hcl
  go_enter Try.func62, Try.ntmps62
  go_wp2
  go_loopw [4] (fun r wr => ∃ k : Nat, k ≤ 94 ∧ r = .int .i32 (33 + (k : Int)) ∧ BuiltIs w.heap.size w.heap.size ((rng.take k).filter f) wr ∧ Below w.heap.size w wr) (fun r _ => 127 - (intOf r).toNat)
  case atStart => exact ⟨0, by omega, rfl, Lib.IsBuilderF.of (Lib.fresh_isBuilder 99 5 w), below_a1 _ _⟩
  case round =>
    obtain ⟨k, hk, rfl, hB, hbw⟩ := hrel
    replace hB := Lib.hid hB
    by_cases hlt : k < 94
    · have hd : decide ((33 : Int) + (k : Int) ≤ 126) = true := decide_eq_true (by omega)
      have hcon := hcv.out wr (33 + (k : Int))
      have hen : Utf8.encode (33 + (k : Int)) = ⟨#[UInt8.ofNat (33 + k)]⟩ := by
        have h1 : (33 : Int) + (k : Int) = ((33 + k : Nat) : Int) := by omega
        rw [h1]
        exact encode_byte (by omega)
      have hat := rng_at hlt
      have hwr0 := fun (B b : Nat) (bs : List UInt8) (W : World) (h : BuiltIs B b bs W) => write_rune B b (33 + k) bs W h (by omega)
      rw [show (((33 + k : Nat)) : Int) = 33 + (k : Int) by omega] at hwr0
      generalize UInt8.ofNat (33 + k) = c at *
      rw [hen] at hcon
      clear hen
      have hmem := List.mem_of_getElem? hat
      have hc1 := Lib.hid (hcl.out c hmem wr hbw)
      have hwr : Hid (w.heap.size ≤ wr.heap.size) := Lib.hid hbw.size
      have hlen : Hid (((rng.take k).filter f).length ≤ 94) := Lib.hid (Nat.le_trans (List.length_filter_le _ _) (by rw [List.length_take, rng_length]; omega))
      have htk := Lib.hid (filter_take (f := f) hat)
      replace hwr0 := Lib.hid hwr0
      clear hat
      cases hf : f c with
      | false =>
        have hnx : Hid ((rng.take (k + 1)).filter f = (rng.take k).filter f) := Lib.hid (by rw [htk.out]; simp [hf])
        rw [hf] at hc1
        clear hf htk hmem
        go_wp2_with fail
        refine hc1.out.mono ?_
        rintro e w1 ⟨rfl, hb1⟩
        have hB1 : Hid (BuiltIs w.heap.size w.heap.size ((rng.take (k + 1)).filter f) w1) := Lib.hid (by rw [hnx.out]; exact hB.out.below hb1)
        go_wp2
        go_roundw
        case rel => exact ⟨k + 1, by omega, by go_num, hB1.out, hbw.step2 hb1 hwr.out⟩
        case measure => simp [intOf]; omega
      | true =>
        have hnx : Hid ((rng.take (k + 1)).filter f = (rng.take k).filter f ++ [c]) := Lib.hid (by rw [htk.out]; simp [hf])
        rw [hf] at hc1
        clear hf htk hmem
        go_wp2_with fail
        refine hc1.out.mono ?_
        rintro e w1 ⟨rfl, hb1⟩
        have hB1 := hB.out.below hb1
        have hwrite := hwr0.out w.heap.size w.heap.size _ w1 hB1 (by have := hlen.out; omega) (Nat.le_trans hwr.out hb1.size)
        replace hwrite := Lib.hid hwrite
        replace hB1 := Lib.hid hB1
        go_wp2_with fail
        refine hwrite.out.mono ?_
        rintro e w2 ⟨rfl, hB2, hb2, _⟩
        replace hB2 : Hid (BuiltIs w.heap.size w.heap.size ((rng.take (k + 1)).filter f) w2) := Lib.hid (by rw [hnx.out]; exact hB2)
        go_wp2
        go_roundw
        case rel => exact ⟨k + 1, by omega, by go_num, hB2.out, (hbw.step2 hb1 hwr.out).trans hb2⟩
        case measure => simp [intOf]; omega
    · have hd : decide ((33 : Int) + (k : Int) ≤ 126) = false := decide_eq_false (by omega)
      have hT : rng.take k = rng := List.take_of_length_le (by rw [rng_length]; omega)
      have hB2 := hB.out
      rw [hT] at hB2
      have hst := Lib.hid (Try.Builder_String_any_f w.heap.size w.heap.size _ wr hB2 hbw.size)
      go_wp2_with fail
      refine hst.out.mono ?_
      rintro e w1 ⟨rfl, _, hb1⟩
      go_wp2
      go_ret
      exact ⟨rfl, hbw.trans hb1⟩

end Go.Proofs.Yticggclpaalhgaa
