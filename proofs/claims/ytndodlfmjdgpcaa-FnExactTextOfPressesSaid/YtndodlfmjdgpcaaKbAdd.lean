/- The program's keyboard: what it puts into its maps. -/
import Derived.Test.YtndodlfmjdgpcaaKbMap
import Derived.Maps.AppendAt
import Derived.Maps.Range
import Derived.Deep.QuietTactic
import Derived.BigQuiet
namespace Go.Proofs.Ytndodlfmjdgpcaa
open Go.RowKit Go.ChangeMaps Go.MapKept
set_option linter.unusedVariables false
set_option linter.unusedSimpArgs false

def spotV (p : SpotD) : Value := .agg #[.int .i64 (p.idx : Int), .bool p.shift, .bool p.dead]
def spotL (S : List (ByteArray × SpotD)) : List (ByteArray × Value) := S.map fun x => (x.1, spotV x.2)
theorem val_spot (s : ByteArray) : ∀ S : List (ByteArray × SpotD), valOf s (spotL S) = (look s S).map spotV
  | [] => rfl
  | x :: S => by
    have ih := val_spot s S
    unfold spotL at ih ⊢
    simp only [List.map_cons, valOf, look]
    split
    · rfl
    · exact ih
theorem spotL_append (S T : List (ByteArray × SpotD)) : spotL (S ++ T) = spotL S ++ spotL T := by simp [spotL]

def kbV (r1 r2 r3 : Nat) : Value := .agg #[.map (some r1), .map (some r2), .map (some r3)]
theorem zero_spot (w : World) : (zeroValue 124).run Try.prog w = .ok (.agg #[.int .i64 0, .bool false, .bool false]) w := by kernel_rfl
theorem zero_over (w : World) : (zeroValue 109).run Try.prog w = .ok (.agg #[.string ByteArray.empty, .string ByteArray.empty]) w := by kernel_rfl
theorem zero_str (w : World) : (zeroValue 9).run Try.prog w = .ok (.string ByteArray.empty) w := by kernel_rfl

theorem grown_of {w w' : World} (h : Below w.heap.size w w') (row : Option Nat) : w.grownBy w' row := ⟨h.os, h.tape, h.output, h.size, fun k hk _ => h.block k hk⟩
theorem grown_step {w a b : World} {row : Option Nat} (h : Below w.heap.size w a) (g : a.grownBy b row) : w.grownBy b row := (grown_of h row).trans g


set_option maxRecDepth 100000 in
set_option maxHeartbeats 400000 in
theorem addLetter_any (r1 r2 r3 : Nat) (s : ByteArray) (p : SpotD) (S : List (ByteArray × SpotD)) (v : Bool) (hv : ((look s S).isNone && isLet s) = v) (w : World) (hs : s.size ≤ maxLen) (hM : MapIs Value.string w r1 (spotL S)) :
    Calls Try.prog 105 #[.agg #[.map (some r1), .map (some r2), .map (some r3)], .string s, .agg #[.int .i64 (p.idx : Int), .bool p.shift, .bool p.dead]] w fun e w' => e = .returned (.bool v) ∧ w.grownBy w' (some r1) ∧ MapIs Value.string w' r1 (spotL (if v = true then S ++ [(s, p)] else S)) := by
  have hw := hM.lt
  cases hl : look s S with
  | some q =>
    have hval : (valOf s (spotL S)).getD (.agg #[.int .i64 0, .bool false, .bool false]) = .agg #[.int .i64 (q.idx : Int), .bool q.shift, .bool q.dead] := by rw [val_spot, hl]; rfl
    have hok : (valOf s (spotL S)).isSome = true := by rw [val_spot, hl]; rfl
    replace hval := Lib.hid hval
    replace hok := Lib.hid hok
    obtain rfl : v = false := by rw [← hv, hl]; rfl
    clear hv hl
    go_enter Try.func105, Try.ntmps105
    go_wp2_with (at_lookup; refine wpList_look_is rfl _ _ _ 9 124 rfl strKey Try.underlying95 (zero_spot _) rfl (hM.below (B := w.heap.size) (below_a2 _ _ _) hw) s rfl hval.out hok.out ?_)
    go_ret
    exact ⟨rfl, grown_of (below_a3 _ _ _ _) _, hM.below (below_a3 _ _ _ _) hw⟩
  | none =>
    have hval : (valOf s (spotL S)).getD (.agg #[.int .i64 0, .bool false, .bool false]) = .agg #[.int .i64 0, .bool false, .bool false] := by rw [val_spot, hl]; rfl
    have hok : (valOf s (spotL S)).isSome = false := by rw [val_spot, hl]; rfl
    have hno : valOf s (spotL S) = none := by rw [val_spot, hl]; rfl
    replace hval := Lib.hid hval
    replace hok := Lib.hid hok
    replace hno := Lib.hid hno
    have hi : isLet s = v := by rw [← hv, hl]; rfl
    clear hv hl
    cases v with
    | false =>
      replace hi := Lib.hid hi
      go_enter Try.func105, Try.ntmps105
      go_wp2_with (first | (at_lookup; refine wpList_look_is rfl _ _ _ 9 124 rfl strKey Try.underlying95 (zero_spot _) rfl (hM.below (B := w.heap.size) (below_a2 _ _ _) hw) s rfl hval.out hok.out ?_) | (go_at_call 74; refine (isLetter_any s false hi.out _ hs).mono ?_; rintro e w' ⟨rfl, rfl⟩))
      go_ret
      exact ⟨rfl, grown_of (below_a3 _ _ _ _) _, hM.below (below_a3 _ _ _ _) hw⟩
    | true =>
      replace hi := Lib.hid hi
      go_enter Try.func105, Try.ntmps105
      go_wp2_with (first | (at_lookup; refine wpList_look_is rfl _ _ _ 9 124 rfl strKey Try.underlying95 (zero_spot _) rfl (hM.below (B := w.heap.size) (below_a2 _ _ _) hw) s rfl hval.out hok.out ?_) | (go_at_call 74; refine (isLetter_any s true hi.out _ hs).mono ?_; rintro e w' ⟨rfl, rfl⟩) | (at_mapUpdate; refine wpList_put_is rfl _ _ _ _ 9 124 rfl strKey Try.underlying95 rfl (hM.below (B := w.heap.size) (below_a3 _ _ _ _) hw) s (.agg #[.int .i64 (p.idx : Int), .bool p.shift, .bool p.dead]) rfl rfl hno.out ?_; intro w1 hm1 hg1))
      go_ret
      refine ⟨rfl, grown_step (below_a3 _ _ _ _) hg1, ?_⟩
      rw [spotL_append]
      exact hm1
end Go.Proofs.Ytndodlfmjdgpcaa
