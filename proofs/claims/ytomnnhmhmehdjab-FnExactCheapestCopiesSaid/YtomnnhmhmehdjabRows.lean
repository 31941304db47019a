/-
  No cell of these rows narrows 'for every input' (looked for: loops, veiled, ifaces, maps, wideKeys, modest, calm, conditions, laid).
  DERIVED. THE GIVEN ROWS OF THIS SEAT. 10 by the template 'for every input the law returns true; each argument reads behind the call as it read before'; 0 by the template 'total and deterministic' (their statements: YtomnnhmhmehdjabTotals.lean).
  GIVEN WITH THE SEED: the statements are not yours to turn. If you find one false, say at which input.
  Laid BY PROGRAM, IN A SANDBOX (cutbox-rows.mjs): the forced cells as the released guide's own fill.sh prints them over the translation da91cc244429fe67… (all of the seat's roots in one cut). By AI agents, Wed Nov 11 2026. No macro, syntax, notation, axiom, sorry.
-/
import Derived.Test.YtomnnhmhmehdjabChecked
import GoSem.Claim
import GoSem.ClaimJoined
import GoSem.ClaimMapViews
import Derived.JoinedTies
import Derived.KernelRfl
namespace Go.Proofs.Ytomnnhmhmehdjab
/- THE CELL 'sum', in the pinned program and in every row, IS THE sha256 OF THE DUMP (.gsa) THAT YtomnnhmhmehdjabProg.lean LOADS. Nothing in Lean hashes anything: it is a label: what it is worth is what the hold of that sum in a sandbox is worth. -/
noncomputable def Try.pinned : Pinned := { name := "ytomnnhmhmehdjab", sum := "da91cc244429fe678e8660ac9bc6b36c3c7768f96fa27bf464ad031f57e1d5ce", checked := Try.checked }
namespace Rows
def none {H : Type} : Left H := { results := [], args := [] }

/-- 'laws.FnExactValidWays': WHATEVER THE INPUT: true; the input reads as it did. -/
def fnExactValidWaysSpec : ChangeSpec := { name := "fnExactValidWays", fn := fun _ => fun
  | [d] => { results := [.lit (.bool true)], args := [d] }
  | _ => none }
def fnExactValidWaysRow : OpenClaim := { program := "ytomnnhmhmehdjab", sum := "da91cc244429fe678e8660ac9bc6b36c3c7768f96fa27bf464ad031f57e1d5ce", func := "loop.example/g01045/laws.FnExactValidWays", spec := "fnExactValidWays", apart := false }
def FnExactValidWaysSaid : Prop := fnExactValidWaysRow.holds Try.pinned (OpenSpec.ofChange fnExactValidWaysSpec)

/-- ITS FALSE NEIGHBOUR: 'it returns false'. Refute it at one input. -/
def fnExactValidWaysWrong : ChangeSpec := { name := "fnExactValidWays", fn := fun _ => fun
  | [d] => { results := [.lit (.bool false)], args := [d] }
  | _ => none }
def FnExactValidWaysWrongFalsely : Prop := fnExactValidWaysRow.holds Try.pinned (OpenSpec.ofChange fnExactValidWaysWrong)

/-- 'laws.FnExactStrengthAt': WHATEVER THE INPUT: true; the input reads as it did. -/
def fnExactStrengthAtSpec : ChangeSpec := { name := "fnExactStrengthAt", fn := fun _ => fun
  | [d1, d2] => { results := [.lit (.bool true)], args := [d1, d2] }
  | _ => none }
def fnExactStrengthAtRow : OpenClaim := { program := "ytomnnhmhmehdjab", sum := "da91cc244429fe678e8660ac9bc6b36c3c7768f96fa27bf464ad031f57e1d5ce", func := "loop.example/g01045/laws.FnExactStrengthAt", spec := "fnExactStrengthAt", apart := false }
def FnExactStrengthAtSaid : Prop := fnExactStrengthAtRow.holds Try.pinned (OpenSpec.ofChange fnExactStrengthAtSpec)

/-- ITS FALSE NEIGHBOUR: 'it returns false'. Refute it at one input. -/
def fnExactStrengthAtWrong : ChangeSpec := { name := "fnExactStrengthAt", fn := fun _ => fun
  | [d1, d2] => { results := [.lit (.bool false)], args := [d1, d2] }
  | _ => none }
def FnExactStrengthAtWrongFalsely : Prop := fnExactStrengthAtRow.holds Try.pinned (OpenSpec.ofChange fnExactStrengthAtWrong)

/-- 'laws.FnExactGoodCopies': WHATEVER THE INPUT: true; the input reads as it did. -/
def fnExactGoodCopiesSpec : ChangeSpec := { name := "fnExactGoodCopies", fn := fun _ => fun
  | [d] => { results := [.lit (.bool true)], args := [d] }
  | _ => none }
def fnExactGoodCopiesRow : OpenClaim := { program := "ytomnnhmhmehdjab", sum := "da91cc244429fe678e8660ac9bc6b36c3c7768f96fa27bf464ad031f57e1d5ce", func := "loop.example/g01045/laws.FnExactGoodCopies", spec := "fnExactGoodCopies", apart := false }
def FnExactGoodCopiesSaid : Prop := fnExactGoodCopiesRow.holds Try.pinned (OpenSpec.ofChange fnExactGoodCopiesSpec)

/-- ITS FALSE NEIGHBOUR: 'it returns false'. Refute it at one input. -/
def fnExactGoodCopiesWrong : ChangeSpec := { name := "fnExactGoodCopies", fn := fun _ => fun
  | [d] => { results := [.lit (.bool false)], args := [d] }
  | _ => none }
def FnExactGoodCopiesWrongFalsely : Prop := fnExactGoodCopiesRow.holds Try.pinned (OpenSpec.ofChange fnExactGoodCopiesWrong)

/-- 'laws.FnExactForceFor': WHATEVER THE INPUT: true; the input reads as it did. -/
def fnExactForceForSpec : ChangeSpec := { name := "fnExactForceFor", fn := fun _ => fun
  | [d1, d2] => { results := [.lit (.bool true)], args := [d1, d2] }
  | _ => none }
def fnExactForceForRow : OpenClaim := { program := "ytomnnhmhmehdjab", sum := "da91cc244429fe678e8660ac9bc6b36c3c7768f96fa27bf464ad031f57e1d5ce", func := "loop.example/g01045/laws.FnExactForceFor", spec := "fnExactForceFor", apart := false }
def FnExactForceForSaid : Prop := fnExactForceForRow.holds Try.pinned (OpenSpec.ofChange fnExactForceForSpec)

/-- ITS FALSE NEIGHBOUR: 'it returns false'. Refute it at one input. -/
def fnExactForceForWrong : ChangeSpec := { name := "fnExactForceFor", fn := fun _ => fun
  | [d1, d2] => { results := [.lit (.bool false)], args := [d1, d2] }
  | _ => none }
def FnExactForceForWrongFalsely : Prop := fnExactForceForRow.holds Try.pinned (OpenSpec.ofChange fnExactForceForWrong)

/-- 'laws.FnExactTypingsFor': WHATEVER THE INPUT: true; the input reads as it did. -/
def fnExactTypingsForSpec : ChangeSpec := { name := "fnExactTypingsFor", fn := fun _ => fun
  | [d1, d2] => { results := [.lit (.bool true)], args := [d1, d2] }
  | _ => none }
def fnExactTypingsForRow : OpenClaim := { program := "ytomnnhmhmehdjab", sum := "da91cc244429fe678e8660ac9bc6b36c3c7768f96fa27bf464ad031f57e1d5ce", func := "loop.example/g01045/laws.FnExactTypingsFor", spec := "fnExactTypingsFor", apart := false }
def FnExactTypingsForSaid : Prop := fnExactTypingsForRow.holds Try.pinned (OpenSpec.ofChange fnExactTypingsForSpec)

/-- ITS FALSE NEIGHBOUR: 'it returns false'. Refute it at one input. -/
def fnExactTypingsForWrong : ChangeSpec := { name := "fnExactTypingsFor", fn := fun _ => fun
  | [d1, d2] => { results := [.lit (.bool false)], args := [d1, d2] }
  | _ => none }
def FnExactTypingsForWrongFalsely : Prop := fnExactTypingsForRow.holds Try.pinned (OpenSpec.ofChange fnExactTypingsForWrong)

/-- 'laws.FnExactCarbonPrice': WHATEVER THE INPUT: true; the input reads as it did. -/
def fnExactCarbonPriceSpec : ChangeSpec := { name := "fnExactCarbonPrice", fn := fun _ => fun
  | [d1, d2, d3] => { results := [.lit (.bool true)], args := [d1, d2, d3] }
  | _ => none }
def fnExactCarbonPriceRow : OpenClaim := { program := "ytomnnhmhmehdjab", sum := "da91cc244429fe678e8660ac9bc6b36c3c7768f96fa27bf464ad031f57e1d5ce", func := "loop.example/g01045/laws.FnExactCarbonPrice", spec := "fnExactCarbonPrice", apart := false }
def FnExactCarbonPriceSaid : Prop := fnExactCarbonPriceRow.holds Try.pinned (OpenSpec.ofChange fnExactCarbonPriceSpec)

/-- ITS FALSE NEIGHBOUR: 'it returns false'. Refute it at one input. -/
def fnExactCarbonPriceWrong : ChangeSpec := { name := "fnExactCarbonPrice", fn := fun _ => fun
  | [d1, d2, d3] => { results := [.lit (.bool false)], args := [d1, d2, d3] }
  | _ => none }
def FnExactCarbonPriceWrongFalsely : Prop := fnExactCarbonPriceRow.holds Try.pinned (OpenSpec.ofChange fnExactCarbonPriceWrong)

/-- 'laws.FnExactCheapestCopies': WHATEVER THE INPUT: true; the input reads as it did. -/
def fnExactCheapestCopiesSpec : ChangeSpec := { name := "fnExactCheapestCopies", fn := fun _ => fun
  | [d1, d2, d3] => { results := [.lit (.bool true)], args := [d1, d2, d3] }
  | _ => none }
def fnExactCheapestCopiesRow : OpenClaim := { program := "ytomnnhmhmehdjab", sum := "da91cc244429fe678e8660ac9bc6b36c3c7768f96fa27bf464ad031f57e1d5ce", func := "loop.example/g01045/laws.FnExactCheapestCopies", spec := "fnExactCheapestCopies", unfollowed := true, recurses := true, apart := false }
def FnExactCheapestCopiesSaid : Prop := fnExactCheapestCopiesRow.holds Try.pinned (OpenSpec.ofChange fnExactCheapestCopiesSpec)

/-- ITS FALSE NEIGHBOUR: 'it returns false'. Refute it at one input. -/
def fnExactCheapestCopiesWrong : ChangeSpec := { name := "fnExactCheapestCopies", fn := fun _ => fun
  | [d1, d2, d3] => { results := [.lit (.bool false)], args := [d1, d2, d3] }
  | _ => none }
def FnExactCheapestCopiesWrongFalsely : Prop := fnExactCheapestCopiesRow.holds Try.pinned (OpenSpec.ofChange fnExactCheapestCopiesWrong)

/-- 'laws.FnExactStencilFrom': WHATEVER THE INPUT: true; the input reads as it did. -/
def fnExactStencilFromSpec : ChangeSpec := { name := "fnExactStencilFrom", fn := fun _ => fun
  | [d1, d2] => { results := [.lit (.bool true)], args := [d1, d2] }
  | _ => none }
def fnExactStencilFromRow : OpenClaim := { program := "ytomnnhmhmehdjab", sum := "da91cc244429fe678e8660ac9bc6b36c3c7768f96fa27bf464ad031f57e1d5ce", func := "loop.example/g01045/laws.FnExactStencilFrom", spec := "fnExactStencilFrom", apart := false }
def FnExactStencilFromSaid : Prop := fnExactStencilFromRow.holds Try.pinned (OpenSpec.ofChange fnExactStencilFromSpec)

/-- ITS FALSE NEIGHBOUR: 'it returns false'. Refute it at one input. -/
def fnExactStencilFromWrong : ChangeSpec := { name := "fnExactStencilFrom", fn := fun _ => fun
  | [d1, d2] => { results := [.lit (.bool false)], args := [d1, d2] }
  | _ => none }
def FnExactStencilFromWrongFalsely : Prop := fnExactStencilFromRow.holds Try.pinned (OpenSpec.ofChange fnExactStencilFromWrong)

/-- 'laws.FnExactWearSheets': WHATEVER THE INPUT: true; the input reads as it did. -/
def fnExactWearSheetsSpec : ChangeSpec := { name := "fnExactWearSheets", fn := fun _ => fun
  | [d1, d2] => { results := [.lit (.bool true)], args := [d1, d2] }
  | _ => none }
def fnExactWearSheetsRow : OpenClaim := { program := "ytomnnhmhmehdjab", sum := "da91cc244429fe678e8660ac9bc6b36c3c7768f96fa27bf464ad031f57e1d5ce", func := "loop.example/g01045/laws.FnExactWearSheets", spec := "fnExactWearSheets", unfollowed := true, recurses := true, apart := false }
def FnExactWearSheetsSaid : Prop := fnExactWearSheetsRow.holds Try.pinned (OpenSpec.ofChange fnExactWearSheetsSpec)

/-- ITS FALSE NEIGHBOUR: 'it returns false'. Refute it at one input. -/
def fnExactWearSheetsWrong : ChangeSpec := { name := "fnExactWearSheets", fn := fun _ => fun
  | [d1, d2] => { results := [.lit (.bool false)], args := [d1, d2] }
  | _ => none }
def FnExactWearSheetsWrongFalsely : Prop := fnExactWearSheetsRow.holds Try.pinned (OpenSpec.ofChange fnExactWearSheetsWrong)

/-- 'laws.FnExactEvenSheets': WHATEVER THE INPUT: true; the input reads as it did. -/
def fnExactEvenSheetsSpec : ChangeSpec := { name := "fnExactEvenSheets", fn := fun _ => fun
  | [d] => { results := [.lit (.bool true)], args := [d] }
  | _ => none }
def fnExactEvenSheetsRow : OpenClaim := { program := "ytomnnhmhmehdjab", sum := "da91cc244429fe678e8660ac9bc6b36c3c7768f96fa27bf464ad031f57e1d5ce", func := "loop.example/g01045/laws.FnExactEvenSheets", spec := "fnExactEvenSheets", unfollowed := true, recurses := true, apart := false }
def FnExactEvenSheetsSaid : Prop := fnExactEvenSheetsRow.holds Try.pinned (OpenSpec.ofChange fnExactEvenSheetsSpec)

/-- ITS FALSE NEIGHBOUR: 'it returns false'. Refute it at one input. -/
def fnExactEvenSheetsWrong : ChangeSpec := { name := "fnExactEvenSheets", fn := fun _ => fun
  | [d] => { results := [.lit (.bool false)], args := [d] }
  | _ => none }
def FnExactEvenSheetsWrongFalsely : Prop := fnExactEvenSheetsRow.holds Try.pinned (OpenSpec.ofChange fnExactEvenSheetsWrong)

/- THE SECOND FORM. 'bulk': how many values and letters a reading holds, each counted each time it is reached (what is shared counts as often as it is met; a slice's spare places count too). A statement '..UptoSaid' is the law's where the arguments, and the package variables that the reading takes, are together of bulk at most 1048576: NARROWER than '..Said'. Prove '..Said' where nothing that the law and all that it calls make is longer than what came in: it says more and counts as full. Else prove '..UptoSaid'. A law counts once. -/
mutual
def uptoBulk {H : Type} : DataW H → Nat
  | .lit (.string bytes) => bytes.length + 1
  | .lit _ => 1
  | .nil => 1
  | .ptr d => uptoBulk d + 1
  | .slice elems spare => uptoBulkAll elems + uptoBulkAll spare + 1
  | .agg parts => uptoBulkAll parts + 1
  | .iface _ d => uptoBulk d + 1
  | .map entries => uptoBulkEntries entries + 1
  | .held _ => 1
def uptoBulkAll {H : Type} : List (DataW H) → Nat
  | [] => 0
  | d :: r => uptoBulk d + uptoBulkAll r
def uptoBulkEntries {H : Type} : List (Lit × DataW H) → Nat
  | [] => 0
  | x :: r => uptoBulkEntry x + uptoBulkEntries r
def uptoBulkEntry {H : Type} : Lit × DataW H → Nat
  | (.string bytes, d) => bytes.length + uptoBulk d + 1
  | (_, d) => uptoBulk d + 1
 end
def uptoSmall : (H : Type) → List (DataW H) → Bool := fun _ ds => decide (uptoBulkAll ds ≤ 1048576)
def OpenSpec.upto (s : _root_.Go.ChangeSpec) : _root_.Go.OpenSpec := { _root_.Go.OpenSpec.ofChange s with cond := some uptoSmall }

/-- 'laws.FnExactValidWays', WHERE WHAT IT READS IS OF BULK AT MOST 1048576: true; the input reads as it did. -/
def fnExactValidWaysUptoRow : OpenClaim := { program := "ytomnnhmhmehdjab", sum := "da91cc244429fe678e8660ac9bc6b36c3c7768f96fa27bf464ad031f57e1d5ce", func := "loop.example/g01045/laws.FnExactValidWays", spec := "fnExactValidWays", apart := false, narrowed := true }
def FnExactValidWaysUptoSaid : Prop := fnExactValidWaysUptoRow.holds Try.pinned (OpenSpec.upto fnExactValidWaysSpec)

/-- 'laws.FnExactStrengthAt', WHERE WHAT IT READS IS OF BULK AT MOST 1048576: true; the input reads as it did. -/
def fnExactStrengthAtUptoRow : OpenClaim := { program := "ytomnnhmhmehdjab", sum := "da91cc244429fe678e8660ac9bc6b36c3c7768f96fa27bf464ad031f57e1d5ce", func := "loop.example/g01045/laws.FnExactStrengthAt", spec := "fnExactStrengthAt", apart := false, narrowed := true }
def FnExactStrengthAtUptoSaid : Prop := fnExactStrengthAtUptoRow.holds Try.pinned (OpenSpec.upto fnExactStrengthAtSpec)

/-- 'laws.FnExactGoodCopies', WHERE WHAT IT READS IS OF BULK AT MOST 1048576: true; the input reads as it did. -/
def fnExactGoodCopiesUptoRow : OpenClaim := { program := "ytomnnhmhmehdjab", sum := "da91cc244429fe678e8660ac9bc6b36c3c7768f96fa27bf464ad031f57e1d5ce", func := "loop.example/g01045/laws.FnExactGoodCopies", spec := "fnExactGoodCopies", apart := false, narrowed := true }
def FnExactGoodCopiesUptoSaid : Prop := fnExactGoodCopiesUptoRow.holds Try.pinned (OpenSpec.upto fnExactGoodCopiesSpec)

/-- 'laws.FnExactForceFor', WHERE WHAT IT READS IS OF BULK AT MOST 1048576: true; the input reads as it did. -/
def fnExactForceForUptoRow : OpenClaim := { program := "ytomnnhmhmehdjab", sum := "da91cc244429fe678e8660ac9bc6b36c3c7768f96fa27bf464ad031f57e1d5ce", func := "loop.example/g01045/laws.FnExactForceFor", spec := "fnExactForceFor", apart := false, narrowed := true }
def FnExactForceForUptoSaid : Prop := fnExactForceForUptoRow.holds Try.pinned (OpenSpec.upto fnExactForceForSpec)

/-- 'laws.FnExactTypingsFor', WHERE WHAT IT READS IS OF BULK AT MOST 1048576: true; the input reads as it did. -/
def fnExactTypingsForUptoRow : OpenClaim := { program := "ytomnnhmhmehdjab", sum := "da91cc244429fe678e8660ac9bc6b36c3c7768f96fa27bf464ad031f57e1d5ce", func := "loop.example/g01045/laws.FnExactTypingsFor", spec := "fnExactTypingsFor", apart := false, narrowed := true }
def FnExactTypingsForUptoSaid : Prop := fnExactTypingsForUptoRow.holds Try.pinned (OpenSpec.upto fnExactTypingsForSpec)

/-- 'laws.FnExactCarbonPrice', WHERE WHAT IT READS IS OF BULK AT MOST 1048576: true; the input reads as it did. -/
def fnExactCarbonPriceUptoRow : OpenClaim := { program := "ytomnnhmhmehdjab", sum := "da91cc244429fe678e8660ac9bc6b36c3c7768f96fa27bf464ad031f57e1d5ce", func := "loop.example/g01045/laws.FnExactCarbonPrice", spec := "fnExactCarbonPrice", apart := false, narrowed := true }
def FnExactCarbonPriceUptoSaid : Prop := fnExactCarbonPriceUptoRow.holds Try.pinned (OpenSpec.upto fnExactCarbonPriceSpec)

/-- 'laws.FnExactCheapestCopies', WHERE WHAT IT READS IS OF BULK AT MOST 1048576: true; the input reads as it did. -/
def fnExactCheapestCopiesUptoRow : OpenClaim := { program := "ytomnnhmhmehdjab", sum := "da91cc244429fe678e8660ac9bc6b36c3c7768f96fa27bf464ad031f57e1d5ce", func := "loop.example/g01045/laws.FnExactCheapestCopies", spec := "fnExactCheapestCopies", unfollowed := true, recurses := true, apart := false, narrowed := true }
def FnExactCheapestCopiesUptoSaid : Prop := fnExactCheapestCopiesUptoRow.holds Try.pinned (OpenSpec.upto fnExactCheapestCopiesSpec)

/-- 'laws.FnExactStencilFrom', WHERE WHAT IT READS IS OF BULK AT MOST 1048576: true; the input reads as it did. -/
def fnExactStencilFromUptoRow : OpenClaim := { program := "ytomnnhmhmehdjab", sum := "da91cc244429fe678e8660ac9bc6b36c3c7768f96fa27bf464ad031f57e1d5ce", func := "loop.example/g01045/laws.FnExactStencilFrom", spec := "fnExactStencilFrom", apart := false, narrowed := true }
def FnExactStencilFromUptoSaid : Prop := fnExactStencilFromUptoRow.holds Try.pinned (OpenSpec.upto fnExactStencilFromSpec)

/-- 'laws.FnExactWearSheets', WHERE WHAT IT READS IS OF BULK AT MOST 1048576: true; the input reads as it did. -/
def fnExactWearSheetsUptoRow : OpenClaim := { program := "ytomnnhmhmehdjab", sum := "da91cc244429fe678e8660ac9bc6b36c3c7768f96fa27bf464ad031f57e1d5ce", func := "loop.example/g01045/laws.FnExactWearSheets", spec := "fnExactWearSheets", unfollowed := true, recurses := true, apart := false, narrowed := true }
def FnExactWearSheetsUptoSaid : Prop := fnExactWearSheetsUptoRow.holds Try.pinned (OpenSpec.upto fnExactWearSheetsSpec)

/-- 'laws.FnExactEvenSheets', WHERE WHAT IT READS IS OF BULK AT MOST 1048576: true; the input reads as it did. -/
def fnExactEvenSheetsUptoRow : OpenClaim := { program := "ytomnnhmhmehdjab", sum := "da91cc244429fe678e8660ac9bc6b36c3c7768f96fa27bf464ad031f57e1d5ce", func := "loop.example/g01045/laws.FnExactEvenSheets", spec := "fnExactEvenSheets", unfollowed := true, recurses := true, apart := false, narrowed := true }
def FnExactEvenSheetsUptoSaid : Prop := fnExactEvenSheetsUptoRow.holds Try.pinned (OpenSpec.upto fnExactEvenSheetsSpec)

end Rows
end Go.Proofs.Ytomnnhmhmehdjab
