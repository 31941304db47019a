/- Centring: the model's title page. -/
import Derived.Test.YtalmpiffjghhkaaCen3
namespace Go.Proofs.Ytalmpiffjghhkaa
open Go.RowKit Go.ChangeShapes Go.WideShapes Go.Deep
set_option linter.unusedVariables false
set_option linter.unusedSimpArgs false

def fitW (wd : Int) (x : ByteArray) : Bool := decide ((x.size : Int) ≤ wd)
def tpE (wd : Int) (x : ByteArray) : ByteArray := repB 32 ((wd - (x.size : Int)).toNat / 2) ++ x
def tpL (n : Nat) (ls : List ByteArray) (wd ht : Int) : List ByteArray :=
  List.replicate ((ht - (n : Int)).toNat / 2) ByteArray.empty ++ ls.map (tpE wd) ++ List.replicate (ht.toNat - (ht - (n : Int)).toNat / 2 - n) ByteArray.empty
def tpR (ls : List ByteArray) (wd ht : Int) : List ByteArray × Int :=
  if (ls.all settB && (decide ((ls.length : Int) ≤ 30) && (inR wd 1 100 && inR ht 1 30))) = true then (if (ls.all (fitW wd) && decide ((ls.length : Int) ≤ ht)) = true then (tpL ls.length ls wd ht, 0) else ([], 5)) else ([], 2)
def lenV : Value → Nat
  | .slice _ n _ => n
  | _ => 0
theorem snoc_p {P : List ByteArray} {g : ByteArray → ByteArray} {ls : List ByteArray} {k : Nat} {x : ByteArray} (h : ls[k]? = some x) : (P ++ (ls.take (k + 1)).map g).flatMap strC = (P ++ (ls.take k).map g).flatMap strC ++ [.string (g x)] := by
  rw [take8 h, List.map_append, ← List.append_assoc, List.flatMap_append]; rfl
theorem snoc_r (P : List ByteArray) (j : Nat) : (P ++ List.replicate (j + 1) ByteArray.empty).flatMap strC = (P ++ List.replicate j ByteArray.empty).flatMap strC ++ [.string ByteArray.empty] := by
  rw [List.replicate_succ', ← List.append_assoc, List.flatMap_append]; rfl
theorem snoc_r0 (j : Nat) : (List.replicate (j + 1) ByteArray.empty).flatMap strC = (List.replicate j ByteArray.empty).flatMap strC ++ [.string ByteArray.empty] := by
  rw [List.replicate_succ', List.flatMap_append]; rfl
end Go.Proofs.Ytalmpiffjghhkaa
