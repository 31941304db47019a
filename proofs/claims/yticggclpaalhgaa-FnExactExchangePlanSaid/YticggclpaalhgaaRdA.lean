/- The program's reader of layouts: what each of its steps leaves. -/
import Derived.Test.YticggclpaalhgaaMapOps
import Derived.Test.YticggclpaalhgaaLay1
import Derived.Test.YticggclpaalhgaaLayD
import Derived.Test.YticggclpaalhgaaLet0
import Derived.StillTailTactics
namespace Go.Proofs.Yticggclpaalhgaa
open Go.RowKit Go.ChangeMaps Go.MapKept
set_option linter.unusedVariables false
set_option linter.unusedSimpArgs false

def spotV6 (p : Nat × Nat) : Value := .agg #[.int .i64 (p.1 : Int), .int .i64 (p.2 : Int)]
def spotL6 (S : Spots) : List (UInt8 × Value) := S.map fun x => (x.1, spotV6 x.2)
theorem val_spot6 (c : UInt8) : ∀ S : Spots, valOf c (spotL6 S) = (look6 c S).map spotV6
  | [] => rfl
  | x :: S => by
    have ih := val_spot6 c S
    unfold spotL6 at ih ⊢
    simp only [List.map_cons, valOf, look6]
    split
    · rfl
    · exact ih
theorem zero_spot6 (w : World) : (zeroValue 61).run Try.prog w = .ok (.agg #[.int .i64 0, .int .i64 0]) w := by kernel_rfl
theorem byteKey6 : KeyLaw Try.prog 5 byteV := byteKey Try.underlying5

/-- The reader r lies in block R, its map in block M. -/
structure RdAt (w : World) (R M : Nat) (r : Rd) : Prop where
  row : w.cell? ⟨R, 0, none⟩ = some (.int .i64 (r.row : Int))
  col : w.cell? ⟨R, 1, none⟩ = some (.int .i64 (r.col : Int))
  map : w.cell? ⟨R, 2, none⟩ = some (.map (some M))
  free : ∀ o, w.frozen? ⟨R, o, none⟩ = false
  ne : R ≠ M
  spots : MapIs byteV w M (spotL6 r.spots)
/-- Only the blocks a and b have changed. -/
structure Only2 (a b : Nat) (w w' : World) : Prop where
  os : w'.os = w.os
  tape : w'.tape = w.tape
  output : w'.output = w.output
  size : w.heap.size ≤ w'.heap.size
  block : ∀ k, k < w.heap.size → k ≠ a → k ≠ b → w'.heap[k]? = w.heap[k]?
theorem Only2.of_below {a b : Nat} {w w' : World} (h : Below w.heap.size w w') : Only2 a b w w' := ⟨h.os, h.tape, h.output, h.size, fun k hk _ _ => h.block k hk⟩
theorem Only2.trans {a b : Nat} {w w' w'' : World} (h : Only2 a b w w') (k : Only2 a b w' w'') : Only2 a b w w'' :=
  ⟨k.os.trans h.os, k.tape.trans h.tape, k.output.trans h.output, Nat.le_trans h.size k.size, fun i hi h1 h2 => (k.block i (Nat.lt_of_lt_of_le hi h.size) h1 h2).trans (h.block i hi h1 h2)⟩
theorem Only2.of_grown {a b : Nat} {w w' : World} (h : w.grownBy w' (some b)) : Only2 a b w w' := ⟨h.os, h.tape, h.output, h.size, fun k hk _ h2 => h.block k hk (by simp; omega)⟩
theorem Only2.set {a b o : Nat} {w : World} {v : Value} : Only2 a b w (w.setCell ⟨a, o, none⟩ v) := ⟨rfl, rfl, rfl, by simp [World.setCell], fun k _ h1 _ => Below.heap_setCell _ _ _ _ h1⟩
theorem Only2.below {B a b : Nat} {w0 w w' : World} (h : Only2 a b w w') (hb : Below B w0 w) (hB : B ≤ w.heap.size) (ha : B ≤ a) (hbb : B ≤ b) : Below B w0 w' :=
  ⟨h.os.trans hb.os, h.tape.trans hb.tape, h.output.trans hb.output, Nat.le_trans hb.size h.size, fun k hk => (h.block k (Nat.lt_of_lt_of_le hk hB) (by omega) (by omega)).trans (hb.block k hk)⟩
theorem RdAt.lt {w : World} {R M : Nat} {r : Rd} (h : RdAt w R M r) : R < w.heap.size := World.block_lt_of_cell? _ _ h.row
theorem RdAt.lt2 {w : World} {R M : Nat} {r : Rd} (h : RdAt w R M r) : M < w.heap.size := h.spots.lt
theorem RdAt.below {w w' : World} {R M : Nat} {r : Rd} (h : RdAt w R M r) (hb : Below w.heap.size w w') : RdAt w' R M r :=
  ⟨(hb.cell (p := ⟨R, 0, none⟩) h.lt).trans h.row, (hb.cell (p := ⟨R, 1, none⟩) h.lt).trans h.col, (hb.cell (p := ⟨R, 2, none⟩) h.lt).trans h.map, fun o => (hb.frozen (p := ⟨R, o, none⟩) h.lt).trans (h.free o), h.ne, h.spots.below hb h.lt2⟩
/-- What a step leaves: the fault, and the reader behind it. -/
def RdOut (R M f : Nat) (r : Rd) (w : World) (e : Ending) (w' : World) : Prop := e = .returned (.int .i64 (f : Int)) ∧ RdAt w' R M r ∧ Only2 R M w w'

theorem keyByte_in (c : UInt8) : (isIn (c.toNat : Int) 33 126 && !decide (c.toNat = 47)) = keyByte c := by
  unfold isIn keyByte
  congr 1
  congr 1
  · exact decide_eq_decide.2 (by omega)
  · exact decide_eq_decide.2 (by omega)

set_option maxRecDepth 100000 in
set_option maxHeartbeats 1600000 in
theorem takeLetter_any (R M : Nat) (r : Rd) (c : UInt8) (w : World) (h : RdAt w R M r) (hcol : r.col ≤ 12) :
    Calls Try.prog 83 #[.pointer (some ⟨R, 0, none⟩), .int .u8 (c.toNat : Int)] w (RdOut R M (r.letter c) (if r.letter c = 0 then r.put c else r) w) := by
  replace hcol := Lib.hid hcol
  have hc := c.toNat_lt
  have hw : IntKind.i64.wrap (c.toNat : Int) = (c.toNat : Int) := IntWalk.i64_in _ (by omega)
  cases hk : keyByte c with
  | false =>
    have hf : r.letter c = 2 := by simp [Rd.letter, hk]
    rw [hf, if_neg (by decide)]
    cases h1 : isIn (c.toNat : Int) 33 126 with
    | false =>
      have hq := Lib.hid (fun W => in_impl h1 W)
      clear hk hf h1
      replace h := Lib.hid h
      go_enter Try.func83, Try.ntmps83
      go_wp2_with fail
      refine (hq.out _).mono ?_
      rintro e w1 ⟨rfl, rfl⟩
      go_wp2
      go_ret
      exact ⟨rfl, h.out, Only2.of_below (Below.refl _ _)⟩
    | true =>
      have h47 : c.toNat = 47 := by
        have := keyByte_in c
        rw [hk, h1] at this
        simpa using this
      have hq := Lib.hid (fun W => in_impl h1 W)
      have g47 : ((c.toNat : Int) == 47) = true := by rw [h47]; rfl
      clear hk hf h1 h47
      replace h := Lib.hid h
      go_enter Try.func83, Try.ntmps83
      go_wp2_with fail
      refine (hq.out _).mono ?_
      rintro e w1 ⟨rfl, rfl⟩
      go_wp2
      go_ret
      exact ⟨rfl, h.out, Only2.of_below (Below.refl _ _)⟩
  | true =>
    have h3 := keyByte_in c
    rw [hk] at h3
    simp only [Bool.and_eq_true, Bool.not_eq_true', decide_eq_false_iff_not] at h3
    obtain ⟨h1, h47⟩ := h3
    have g47 : ((c.toNat : Int) == 47) = false := beq_eq_false_iff_ne.2 (by omega)
    have hq := Lib.hid (fun W => in_impl h1 W)
    have c0 := h.row
    have c1 := h.col
    have c2 := h.map
    have f1 := h.free 1
    have hm := h.spots
    have hml := h.lt2
    have hrl := h.lt
    cases hl : look6 c r.spots with
    | some q =>
      have hf : r.letter c = 3 := by simp [Rd.letter, hk, hl]
      rw [hf, if_neg (by decide)]
      have hval : (valOf c (spotL6 r.spots)).getD (.agg #[.int .i64 0, .int .i64 0]) = .agg #[.int .i64 (q.1 : Int), .int .i64 (q.2 : Int)] := by rw [val_spot6, hl]; rfl
      have hok : (valOf c (spotL6 r.spots)).isSome = true := by rw [val_spot6, hl]; rfl
      replace hval := Lib.hid hval
      replace hok := Lib.hid hok
      clear hk hf h1 hl h47 hc
      replace h := Lib.hid h
      go_enter Try.func83, Try.ntmps83
      go_wp2_with fail
      refine (hq.out _).mono ?_
      rintro e w1 ⟨rfl, rfl⟩
      go_wp2_with (at_lookup; refine wpList_look_is rfl _ _ _ 5 61 rfl byteKey6 Try.underlying57 (zero_spot6 _) rfl hm c rfl hval.out hok.out ?_)
      go_ret
      exact ⟨rfl, h.out.below (below_a1 _ _), Only2.of_below (below_a1 _ _)⟩
    | none =>
      have hval : (valOf c (spotL6 r.spots)).getD (.agg #[.int .i64 0, .int .i64 0]) = .agg #[.int .i64 0, .int .i64 0] := by rw [val_spot6, hl]; rfl
      have hok : (valOf c (spotL6 r.spots)).isSome = false := by rw [val_spot6, hl]; rfl
      have hno : valOf c (spotL6 r.spots) = none := by rw [val_spot6, hl]; rfl
      replace hval := Lib.hid hval
      replace hok := Lib.hid hok
      replace hno := Lib.hid hno
      by_cases h12 : r.col = 12
      · have hf : r.letter c = 4 := by simp [Rd.letter, hk, hl, h12]
        rw [hf, if_neg (by decide)]
        have g12 : ((r.col : Int) == 12) = true := by rw [h12]; rfl
        clear hk hf h1 hl h47 hc
        replace h := Lib.hid h
        replace h12 := Lib.hid h12
        go_enter Try.func83, Try.ntmps83
        go_wp2_with fail
        refine (hq.out _).mono ?_
        rintro e w1 ⟨rfl, rfl⟩
        go_wp2_with (at_lookup; refine wpList_look_is rfl _ _ _ 5 61 rfl byteKey6 Try.underlying57 (zero_spot6 _) rfl hm c rfl hval.out hok.out ?_)
        go_ret
        exact ⟨rfl, h.out.below (below_a1 _ _), Only2.of_below (below_a1 _ _)⟩
      · have hf : r.letter c = 0 := by simp [Rd.letter, hk, hl, h12]
        rw [hf, if_pos rfl]
        have g12 : ((r.col : Int) == 12) = false := beq_eq_false_iff_ne.2 (by omega)
        clear hk hf h1 hl h47 hc
        replace h := Lib.hid h
        replace h12 := Lib.hid h12
        go_enter Try.func83, Try.ntmps83
        go_wp2_with fail
        refine (hq.out _).mono ?_
        rintro e w1 ⟨rfl, rfl⟩
        go_wp2_with (at_lookup; refine wpList_look_is rfl _ _ _ 5 61 rfl byteKey6 Try.underlying57 (zero_spot6 _) rfl hm c rfl hval.out hok.out ?_)
        have hr1 := h.out.below (below_a1 w (.cells #[.int .i64 0, .int .i64 0] 61))
        have hb1 := Lib.hid (below_a1 w (.cells #[.int .i64 0, .int .i64 0] 61))
        generalize hwn : w.alloc (.cells #[.int .i64 0, .int .i64 0] 61) = wn at *
        obtain ⟨d0, d1, d2, df, dn, dm⟩ := hr1
        have hrl1 : R < wn.heap.size := World.block_lt_of_cell? _ _ d0
        have hml1 : M < wn.heap.size := dm.lt
        have f1 := df 1
        replace df := Lib.hid df
        clear c0 c1 c2 f1
        go_still_tail 9, (by kernel_rfl)
        change wpList _ _ _ _ _ wn.drew
        have hmd : MapIs byteV wn.drew M (spotL6 r.spots) := dm
        refine wpList_put_is rfl _ _ _ _ 5 61 rfl byteKey6 Try.underlying57 rfl hmd c (.agg #[.int .i64 (r.row : Int), .int .i64 (r.col : Int)]) rfl rfl hno.out ?_
        intro w1 hm1 hg1
        replace hg1 : wn.grownBy w1 (some M) := ⟨hg1.os, hg1.tape, hg1.output, hg1.size, hg1.block⟩
        have e0 : w1.cell? ⟨R, 0, none⟩ = some (.int .i64 (r.row : Int)) := hg1.cell d0 (by simp; omega)
        have e1 : w1.cell? ⟨R, 1, none⟩ = some (.int .i64 (r.col : Int)) := hg1.cell d1 (by simp; omega)
        have e2 : w1.cell? ⟨R, 2, none⟩ = some (.map (some M)) := hg1.cell d2 (by simp; omega)
        have ef : ∀ o, w1.frozen? ⟨R, o, none⟩ = false := fun o => (World.frozen?_of_block (hg1.block R hrl1 (by simp; omega))).trans (df.out o)
        have f1 := ef 1
        have hml2 := hm1.lt
        have hrl2 : R < w1.heap.size := World.block_lt_of_cell? _ _ e0
        replace hm1 := Lib.hid hm1
        replace ef := Lib.hid ef
        have hO : Hid (Only2 R M w w1) := Lib.hid ((Only2.of_below hb1.out).trans (Only2.of_grown hg1))
        have hs12 : r.col < 12 := by have h8 := h12.out; have h9 := hcol.out; omega
        have hs1 : IntKind.i64.wrap ((r.col : Int) + 1) = (r.col : Int) + 1 := IntWalk.i64_in _ (by omega)
        go_wp2
        go_ret
        have hne : (⟨R, 0, none⟩ : Addr) ≠ ⟨R, 1, none⟩ := fun e => by cases e
        have hne2 : (⟨R, 2, none⟩ : Addr) ≠ ⟨R, 1, none⟩ := fun e => by cases e
        refine ⟨rfl, ⟨(World.cell?_setCell_other _ _ _ _ hne.symm).trans e0, World.cell?_setCell_same _ _ _ e1, (World.cell?_setCell_other _ _ _ _ hne2.symm).trans e2, fun o => (World.frozen?_setCell _ _ _ _).trans (ef.out o), dn, ?_⟩, hO.out.trans Only2.set⟩
        have : spotL6 (r.put c).spots = spotL6 r.spots ++ [(c, .agg #[.int .i64 (r.row : Int), .int .i64 (r.col : Int)])] := by simp [spotL6, Rd.put, spotV6]
        rw [this]
        exact hm1.out.block (Below.heap_setCell _ _ _ _ (by simp only; omega))
end Go.Proofs.Yticggclpaalhgaa
