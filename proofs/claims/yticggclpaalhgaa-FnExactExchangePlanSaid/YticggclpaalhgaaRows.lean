/-
  No cell of these rows narrows 'for every input' (looked for: loops, veiled, ifaces, maps, wideKeys, modest, calm, conditions, laid).
  DERIVED. THE GIVEN ROWS OF THIS SEAT. 11 by the template 'for every input the law returns true; each argument reads behind the call as it read before'; 0 by the template 'total and deterministic' (their statements: YticggclpaalhgaaTotals.lean).
  GIVEN WITH THE SEED: the statements are not yours to turn. If you find one false, say at which input.
  Laid BY PROGRAM, IN A SANDBOX (cutbox-rows.mjs): the forced cells as the released guide's own fill.sh prints them over the translation 67ec4d14f298a586… (all of the seat's roots in one cut). By AI agents, Wed Nov 11 2026. No macro, syntax, notation, axiom, sorry.
-/
import Derived.Test.YticggclpaalhgaaChecked
import GoSem.Claim
import GoSem.ClaimJoined
import GoSem.ClaimMapViews
import Derived.JoinedTies
import Derived.KernelRfl
namespace Go.Proofs.Yticggclpaalhgaa
/- THE CELL 'sum', in the pinned program and in every row, IS THE sha256 OF THE DUMP (.gsa) THAT YticggclpaalhgaaProg.lean LOADS. Nothing in Lean hashes anything: it is a label: what it is worth is what the hold of that sum in a sandbox is worth. -/
noncomputable def Try.pinned : Pinned := { name := "yticggclpaalhgaa", sum := "67ec4d14f298a58683539aa807b210dd8ce5fb51b309ac4ac0f974c5ede6b962", checked := Try.checked }
namespace Rows
def none {H : Type} : Left H := { results := [], args := [] }

/-- 'laws.FnExactValidLayout': WHATEVER THE INPUT: true; the input reads as it did. -/
def fnExactValidLayoutSpec : ChangeSpec := { name := "fnExactValidLayout", fn := fun _ => fun
  | [d] => { results := [.lit (.bool true)], args := [d] }
  | _ => none }
def fnExactValidLayoutRow : OpenClaim := { program := "yticggclpaalhgaa", sum := "67ec4d14f298a58683539aa807b210dd8ce5fb51b309ac4ac0f974c5ede6b962", func := "loop.example/g01045/laws.FnExactValidLayout", spec := "fnExactValidLayout", apart := false }
def FnExactValidLayoutSaid : Prop := fnExactValidLayoutRow.holds Try.pinned (OpenSpec.ofChange fnExactValidLayoutSpec)

/-- ITS FALSE NEIGHBOUR: 'it returns false'. Refute it at one input. -/
def fnExactValidLayoutWrong : ChangeSpec := { name := "fnExactValidLayout", fn := fun _ => fun
  | [d] => { results := [.lit (.bool false)], args := [d] }
  | _ => none }
def FnExactValidLayoutWrongFalsely : Prop := fnExactValidLayoutRow.holds Try.pinned (OpenSpec.ofChange fnExactValidLayoutWrong)

/-- 'laws.FnExactSameLayout': WHATEVER THE INPUT: true; the input reads as it did. -/
def fnExactSameLayoutSpec : ChangeSpec := { name := "fnExactSameLayout", fn := fun _ => fun
  | [d1, d2] => { results := [.lit (.bool true)], args := [d1, d2] }
  | _ => none }
def fnExactSameLayoutRow : OpenClaim := { program := "yticggclpaalhgaa", sum := "67ec4d14f298a58683539aa807b210dd8ce5fb51b309ac4ac0f974c5ede6b962", func := "loop.example/g01045/laws.FnExactSameLayout", spec := "fnExactSameLayout", apart := false }
def FnExactSameLayoutSaid : Prop := fnExactSameLayoutRow.holds Try.pinned (OpenSpec.ofChange fnExactSameLayoutSpec)

/-- ITS FALSE NEIGHBOUR: 'it returns false'. Refute it at one input. -/
def fnExactSameLayoutWrong : ChangeSpec := { name := "fnExactSameLayout", fn := fun _ => fun
  | [d1, d2] => { results := [.lit (.bool false)], args := [d1, d2] }
  | _ => none }
def FnExactSameLayoutWrongFalsely : Prop := fnExactSameLayoutRow.holds Try.pinned (OpenSpec.ofChange fnExactSameLayoutWrong)

/-- 'laws.FnExactLayoutFault': WHATEVER THE INPUT: true; the input reads as it did. -/
def fnExactLayoutFaultSpec : ChangeSpec := { name := "fnExactLayoutFault", fn := fun _ => fun
  | [d] => { results := [.lit (.bool true)], args := [d] }
  | _ => none }
def fnExactLayoutFaultRow : OpenClaim := { program := "yticggclpaalhgaa", sum := "67ec4d14f298a58683539aa807b210dd8ce5fb51b309ac4ac0f974c5ede6b962", func := "loop.example/g01045/laws.FnExactLayoutFault", spec := "fnExactLayoutFault", apart := false }
def FnExactLayoutFaultSaid : Prop := fnExactLayoutFaultRow.holds Try.pinned (OpenSpec.ofChange fnExactLayoutFaultSpec)

/-- ITS FALSE NEIGHBOUR: 'it returns false'. Refute it at one input. -/
def fnExactLayoutFaultWrong : ChangeSpec := { name := "fnExactLayoutFault", fn := fun _ => fun
  | [d] => { results := [.lit (.bool false)], args := [d] }
  | _ => none }
def FnExactLayoutFaultWrongFalsely : Prop := fnExactLayoutFaultRow.holds Try.pinned (OpenSpec.ofChange fnExactLayoutFaultWrong)

/-- 'laws.FnExactSpotOfLetter': WHATEVER THE INPUT: true; the input reads as it did. -/
def fnExactSpotOfLetterSpec : ChangeSpec := { name := "fnExactSpotOfLetter", fn := fun _ => fun
  | [d1, d2] => { results := [.lit (.bool true)], args := [d1, d2] }
  | _ => none }
def fnExactSpotOfLetterRow : OpenClaim := { program := "yticggclpaalhgaa", sum := "67ec4d14f298a58683539aa807b210dd8ce5fb51b309ac4ac0f974c5ede6b962", func := "loop.example/g01045/laws.FnExactSpotOfLetter", spec := "fnExactSpotOfLetter", apart := false }
def FnExactSpotOfLetterSaid : Prop := fnExactSpotOfLetterRow.holds Try.pinned (OpenSpec.ofChange fnExactSpotOfLetterSpec)

/-- ITS FALSE NEIGHBOUR: 'it returns false'. Refute it at one input. -/
def fnExactSpotOfLetterWrong : ChangeSpec := { name := "fnExactSpotOfLetter", fn := fun _ => fun
  | [d1, d2] => { results := [.lit (.bool false)], args := [d1, d2] }
  | _ => none }
def FnExactSpotOfLetterWrongFalsely : Prop := fnExactSpotOfLetterRow.holds Try.pinned (OpenSpec.ofChange fnExactSpotOfLetterWrong)

/-- 'laws.FnExactMovedLetters': WHATEVER THE INPUT: true; the input reads as it did. -/
def fnExactMovedLettersSpec : ChangeSpec := { name := "fnExactMovedLetters", fn := fun _ => fun
  | [d1, d2] => { results := [.lit (.bool true)], args := [d1, d2] }
  | _ => none }
def fnExactMovedLettersRow : OpenClaim := { program := "yticggclpaalhgaa", sum := "67ec4d14f298a58683539aa807b210dd8ce5fb51b309ac4ac0f974c5ede6b962", func := "loop.example/g01045/laws.FnExactMovedLetters", spec := "fnExactMovedLetters", inPlace := ["internal/abi.NoEscape"], unfollowed := true, recurses := true, apart := false }
def FnExactMovedLettersSaid : Prop := fnExactMovedLettersRow.holds Try.pinned (OpenSpec.ofChange fnExactMovedLettersSpec)

/-- ITS FALSE NEIGHBOUR: 'it returns false'. Refute it at one input. -/
def fnExactMovedLettersWrong : ChangeSpec := { name := "fnExactMovedLetters", fn := fun _ => fun
  | [d1, d2] => { results := [.lit (.bool false)], args := [d1, d2] }
  | _ => none }
def FnExactMovedLettersWrongFalsely : Prop := fnExactMovedLettersRow.holds Try.pinned (OpenSpec.ofChange fnExactMovedLettersWrong)

/-- 'laws.FnExactFewestExchanges': WHATEVER THE INPUT: true; the input reads as it did. -/
def fnExactFewestExchangesSpec : ChangeSpec := { name := "fnExactFewestExchanges", fn := fun _ => fun
  | [d1, d2] => { results := [.lit (.bool true)], args := [d1, d2] }
  | _ => none }
def fnExactFewestExchangesRow : OpenClaim := { program := "yticggclpaalhgaa", sum := "67ec4d14f298a58683539aa807b210dd8ce5fb51b309ac4ac0f974c5ede6b962", func := "loop.example/g01045/laws.FnExactFewestExchanges", spec := "fnExactFewestExchanges", inPlace := ["internal/abi.NoEscape", "internal/bytealg.MakeNoZero", "internal/bytealg.IndexByteString"], unfollowed := true, recurses := true, apart := false }
def FnExactFewestExchangesSaid : Prop := fnExactFewestExchangesRow.holds Try.pinned (OpenSpec.ofChange fnExactFewestExchangesSpec)

/-- ITS FALSE NEIGHBOUR: 'it returns false'. Refute it at one input. -/
def fnExactFewestExchangesWrong : ChangeSpec := { name := "fnExactFewestExchanges", fn := fun _ => fun
  | [d1, d2] => { results := [.lit (.bool false)], args := [d1, d2] }
  | _ => none }
def FnExactFewestExchangesWrongFalsely : Prop := fnExactFewestExchangesRow.holds Try.pinned (OpenSpec.ofChange fnExactFewestExchangesWrong)

/-- 'laws.FnExactExchangePlan': WHATEVER THE INPUT: true; the input reads as it did. -/
def fnExactExchangePlanSpec : ChangeSpec := { name := "fnExactExchangePlan", fn := fun _ => fun
  | [d1, d2] => { results := [.lit (.bool true)], args := [d1, d2] }
  | _ => none }
def fnExactExchangePlanRow : OpenClaim := { program := "yticggclpaalhgaa", sum := "67ec4d14f298a58683539aa807b210dd8ce5fb51b309ac4ac0f974c5ede6b962", func := "loop.example/g01045/laws.FnExactExchangePlan", spec := "fnExactExchangePlan", inPlace := ["internal/abi.NoEscape", "internal/bytealg.MakeNoZero", "internal/bytealg.IndexByte"], unfollowed := true, recurses := true, apart := false }
def FnExactExchangePlanSaid : Prop := fnExactExchangePlanRow.holds Try.pinned (OpenSpec.ofChange fnExactExchangePlanSpec)

/-- ITS FALSE NEIGHBOUR: 'it returns false'. Refute it at one input. -/
def fnExactExchangePlanWrong : ChangeSpec := { name := "fnExactExchangePlan", fn := fun _ => fun
  | [d1, d2] => { results := [.lit (.bool false)], args := [d1, d2] }
  | _ => none }
def FnExactExchangePlanWrongFalsely : Prop := fnExactExchangePlanRow.holds Try.pinned (OpenSpec.ofChange fnExactExchangePlanWrong)

/-- 'laws.FnExactDistanceOf': WHATEVER THE INPUT: true; the input reads as it did. -/
def fnExactDistanceOfSpec : ChangeSpec := { name := "fnExactDistanceOf", fn := fun _ => fun
  | [d1, d2] => { results := [.lit (.bool true)], args := [d1, d2] }
  | _ => none }
def fnExactDistanceOfRow : OpenClaim := { program := "yticggclpaalhgaa", sum := "67ec4d14f298a58683539aa807b210dd8ce5fb51b309ac4ac0f974c5ede6b962", func := "loop.example/g01045/laws.FnExactDistanceOf", spec := "fnExactDistanceOf", unfollowed := true, recurses := true, apart := false }
def FnExactDistanceOfSaid : Prop := fnExactDistanceOfRow.holds Try.pinned (OpenSpec.ofChange fnExactDistanceOfSpec)

/-- ITS FALSE NEIGHBOUR: 'it returns false'. Refute it at one input. -/
def fnExactDistanceOfWrong : ChangeSpec := { name := "fnExactDistanceOf", fn := fun _ => fun
  | [d1, d2] => { results := [.lit (.bool false)], args := [d1, d2] }
  | _ => none }
def FnExactDistanceOfWrongFalsely : Prop := fnExactDistanceOfRow.holds Try.pinned (OpenSpec.ofChange fnExactDistanceOfWrong)

/-- 'laws.FnExactRowShares': WHATEVER THE INPUT: true; the input reads as it did. -/
def fnExactRowSharesSpec : ChangeSpec := { name := "fnExactRowShares", fn := fun _ => fun
  | [d1, d2] => { results := [.lit (.bool true)], args := [d1, d2] }
  | _ => none }
def fnExactRowSharesRow : OpenClaim := { program := "yticggclpaalhgaa", sum := "67ec4d14f298a58683539aa807b210dd8ce5fb51b309ac4ac0f974c5ede6b962", func := "loop.example/g01045/laws.FnExactRowShares", spec := "fnExactRowShares", apart := false }
def FnExactRowSharesSaid : Prop := fnExactRowSharesRow.holds Try.pinned (OpenSpec.ofChange fnExactRowSharesSpec)

/-- ITS FALSE NEIGHBOUR: 'it returns false'. Refute it at one input. -/
def fnExactRowSharesWrong : ChangeSpec := { name := "fnExactRowShares", fn := fun _ => fun
  | [d1, d2] => { results := [.lit (.bool false)], args := [d1, d2] }
  | _ => none }
def FnExactRowSharesWrongFalsely : Prop := fnExactRowSharesRow.holds Try.pinned (OpenSpec.ofChange fnExactRowSharesWrong)

/-- 'laws.FnExactMirrorLayout': WHATEVER THE INPUT: true; the input reads as it did. -/
def fnExactMirrorLayoutSpec : ChangeSpec := { name := "fnExactMirrorLayout", fn := fun _ => fun
  | [d] => { results := [.lit (.bool true)], args := [d] }
  | _ => none }
def fnExactMirrorLayoutRow : OpenClaim := { program := "yticggclpaalhgaa", sum := "67ec4d14f298a58683539aa807b210dd8ce5fb51b309ac4ac0f974c5ede6b962", func := "loop.example/g01045/laws.FnExactMirrorLayout", spec := "fnExactMirrorLayout", unfollowed := true, recurses := true, apart := false }
def FnExactMirrorLayoutSaid : Prop := fnExactMirrorLayoutRow.holds Try.pinned (OpenSpec.ofChange fnExactMirrorLayoutSpec)

/-- ITS FALSE NEIGHBOUR: 'it returns false'. Refute it at one input. -/
def fnExactMirrorLayoutWrong : ChangeSpec := { name := "fnExactMirrorLayout", fn := fun _ => fun
  | [d] => { results := [.lit (.bool false)], args := [d] }
  | _ => none }
def FnExactMirrorLayoutWrongFalsely : Prop := fnExactMirrorLayoutRow.holds Try.pinned (OpenSpec.ofChange fnExactMirrorLayoutWrong)

/-- 'laws.FnExactLayoutText': WHATEVER THE INPUT: true; the input reads as it did. -/
def fnExactLayoutTextSpec : ChangeSpec := { name := "fnExactLayoutText", fn := fun _ => fun
  | [d] => { results := [.lit (.bool true)], args := [d] }
  | _ => none }
def fnExactLayoutTextRow : OpenClaim := { program := "yticggclpaalhgaa", sum := "67ec4d14f298a58683539aa807b210dd8ce5fb51b309ac4ac0f974c5ede6b962", func := "loop.example/g01045/laws.FnExactLayoutText", spec := "fnExactLayoutText", inPlace := ["internal/abi.NoEscape", "internal/bytealg.MakeNoZero"], apart := false }
def FnExactLayoutTextSaid : Prop := fnExactLayoutTextRow.holds Try.pinned (OpenSpec.ofChange fnExactLayoutTextSpec)

/-- ITS FALSE NEIGHBOUR: 'it returns false'. Refute it at one input. -/
def fnExactLayoutTextWrong : ChangeSpec := { name := "fnExactLayoutText", fn := fun _ => fun
  | [d] => { results := [.lit (.bool false)], args := [d] }
  | _ => none }
def FnExactLayoutTextWrongFalsely : Prop := fnExactLayoutTextRow.holds Try.pinned (OpenSpec.ofChange fnExactLayoutTextWrong)

/- THE SECOND FORM. 'bulk': how many values and letters a reading holds, each counted each time it is reached (what is shared counts as often as it is met; a slice's spare places count too). A statement '..UptoSaid' is the law's where the arguments, and the package variables that the reading takes, are together of bulk at most 1048576: NARROWER than '..Said'. Prove '..Said' where nothing that the law and all that it calls make is longer than what came in: it says more and counts as full. Else prove '..UptoSaid'. A law counts once. -/
mutual
def uptoBulk {H : Type} : DataW H → Nat
  | .lit (.string bytes) => bytes.length + 1
  | .lit _ => 1
  | .nil => 1
  | .ptr d => uptoBulk d + 1
  | .slice elems spare => uptoBulkAll elems + uptoBulkAll spare + 1
  | .agg parts => uptoBulkAll parts + 1
  | .iface _ d => uptoBulk d + 1
  | .map entries => uptoBulkEntries entries + 1
  | .held _ => 1
def uptoBulkAll {H : Type} : List (DataW H) → Nat
  | [] => 0
  | d :: r => uptoBulk d + uptoBulkAll r
def uptoBulkEntries {H : Type} : List (Lit × DataW H) → Nat
  | [] => 0
  | x :: r => uptoBulkEntry x + uptoBulkEntries r
def uptoBulkEntry {H : Type} : Lit × DataW H → Nat
  | (.string bytes, d) => bytes.length + uptoBulk d + 1
  | (_, d) => uptoBulk d + 1
 end
def uptoSmall : (H : Type) → List (DataW H) → Bool := fun _ ds => decide (uptoBulkAll ds ≤ 1048576)
def OpenSpec.upto (s : _root_.Go.ChangeSpec) : _root_.Go.OpenSpec := { _root_.Go.OpenSpec.ofChange s with cond := some uptoSmall }

/-- 'laws.FnExactValidLayout', WHERE WHAT IT READS IS OF BULK AT MOST 1048576: true; the input reads as it did. -/
def fnExactValidLayoutUptoRow : OpenClaim := { program := "yticggclpaalhgaa", sum := "67ec4d14f298a58683539aa807b210dd8ce5fb51b309ac4ac0f974c5ede6b962", func := "loop.example/g01045/laws.FnExactValidLayout", spec := "fnExactValidLayout", apart := false, narrowed := true }
def FnExactValidLayoutUptoSaid : Prop := fnExactValidLayoutUptoRow.holds Try.pinned (OpenSpec.upto fnExactValidLayoutSpec)

/-- 'laws.FnExactSameLayout', WHERE WHAT IT READS IS OF BULK AT MOST 1048576: true; the input reads as it did. -/
def fnExactSameLayoutUptoRow : OpenClaim := { program := "yticggclpaalhgaa", sum := "67ec4d14f298a58683539aa807b210dd8ce5fb51b309ac4ac0f974c5ede6b962", func := "loop.example/g01045/laws.FnExactSameLayout", spec := "fnExactSameLayout", apart := false, narrowed := true }
def FnExactSameLayoutUptoSaid : Prop := fnExactSameLayoutUptoRow.holds Try.pinned (OpenSpec.upto fnExactSameLayoutSpec)

/-- 'laws.FnExactLayoutFault', WHERE WHAT IT READS IS OF BULK AT MOST 1048576: true; the input reads as it did. -/
def fnExactLayoutFaultUptoRow : OpenClaim := { program := "yticggclpaalhgaa", sum := "67ec4d14f298a58683539aa807b210dd8ce5fb51b309ac4ac0f974c5ede6b962", func := "loop.example/g01045/laws.FnExactLayoutFault", spec := "fnExactLayoutFault", apart := false, narrowed := true }
def FnExactLayoutFaultUptoSaid : Prop := fnExactLayoutFaultUptoRow.holds Try.pinned (OpenSpec.upto fnExactLayoutFaultSpec)

/-- 'laws.FnExactSpotOfLetter', WHERE WHAT IT READS IS OF BULK AT MOST 1048576: true; the input reads as it did. -/
def fnExactSpotOfLetterUptoRow : OpenClaim := { program := "yticggclpaalhgaa", sum := "67ec4d14f298a58683539aa807b210dd8ce5fb51b309ac4ac0f974c5ede6b962", func := "loop.example/g01045/laws.FnExactSpotOfLetter", spec := "fnExactSpotOfLetter", apart := false, narrowed := true }
def FnExactSpotOfLetterUptoSaid : Prop := fnExactSpotOfLetterUptoRow.holds Try.pinned (OpenSpec.upto fnExactSpotOfLetterSpec)

/-- 'laws.FnExactMovedLetters', WHERE WHAT IT READS IS OF BULK AT MOST 1048576: true; the input reads as it did. -/
def fnExactMovedLettersUptoRow : OpenClaim := { program := "yticggclpaalhgaa", sum := "67ec4d14f298a58683539aa807b210dd8ce5fb51b309ac4ac0f974c5ede6b962", func := "loop.example/g01045/laws.FnExactMovedLetters", spec := "fnExactMovedLetters", inPlace := ["internal/abi.NoEscape"], unfollowed := true, recurses := true, apart := false, narrowed := true }
def FnExactMovedLettersUptoSaid : Prop := fnExactMovedLettersUptoRow.holds Try.pinned (OpenSpec.upto fnExactMovedLettersSpec)

/-- 'laws.FnExactFewestExchanges', WHERE WHAT IT READS IS OF BULK AT MOST 1048576: true; the input reads as it did. -/
def fnExactFewestExchangesUptoRow : OpenClaim := { program := "yticggclpaalhgaa", sum := "67ec4d14f298a58683539aa807b210dd8ce5fb51b309ac4ac0f974c5ede6b962", func := "loop.example/g01045/laws.FnExactFewestExchanges", spec := "fnExactFewestExchanges", inPlace := ["internal/abi.NoEscape", "internal/bytealg.MakeNoZero", "internal/bytealg.IndexByteString"], unfollowed := true, recurses := true, apart := false, narrowed := true }
def FnExactFewestExchangesUptoSaid : Prop := fnExactFewestExchangesUptoRow.holds Try.pinned (OpenSpec.upto fnExactFewestExchangesSpec)

/-- 'laws.FnExactExchangePlan', WHERE WHAT IT READS IS OF BULK AT MOST 1048576: true; the input reads as it did. -/
def fnExactExchangePlanUptoRow : OpenClaim := { program := "yticggclpaalhgaa", sum := "67ec4d14f298a58683539aa807b210dd8ce5fb51b309ac4ac0f974c5ede6b962", func := "loop.example/g01045/laws.FnExactExchangePlan", spec := "fnExactExchangePlan", inPlace := ["internal/abi.NoEscape", "internal/bytealg.MakeNoZero", "internal/bytealg.IndexByte"], unfollowed := true, recurses := true, apart := false, narrowed := true }
def FnExactExchangePlanUptoSaid : Prop := fnExactExchangePlanUptoRow.holds Try.pinned (OpenSpec.upto fnExactExchangePlanSpec)

/-- 'laws.FnExactDistanceOf', WHERE WHAT IT READS IS OF BULK AT MOST 1048576: true; the input reads as it did. -/
def fnExactDistanceOfUptoRow : OpenClaim := { program := "yticggclpaalhgaa", sum := "67ec4d14f298a58683539aa807b210dd8ce5fb51b309ac4ac0f974c5ede6b962", func := "loop.example/g01045/laws.FnExactDistanceOf", spec := "fnExactDistanceOf", unfollowed := true, recurses := true, apart := false, narrowed := true }
def FnExactDistanceOfUptoSaid : Prop := fnExactDistanceOfUptoRow.holds Try.pinned (OpenSpec.upto fnExactDistanceOfSpec)

/-- 'laws.FnExactRowShares', WHERE WHAT IT READS IS OF BULK AT MOST 1048576: true; the input reads as it did. -/
def fnExactRowSharesUptoRow : OpenClaim := { program := "yticggclpaalhgaa", sum := "67ec4d14f298a58683539aa807b210dd8ce5fb51b309ac4ac0f974c5ede6b962", func := "loop.example/g01045/laws.FnExactRowShares", spec := "fnExactRowShares", apart := false, narrowed := true }
def FnExactRowSharesUptoSaid : Prop := fnExactRowSharesUptoRow.holds Try.pinned (OpenSpec.upto fnExactRowSharesSpec)

/-- 'laws.FnExactMirrorLayout', WHERE WHAT IT READS IS OF BULK AT MOST 1048576: true; the input reads as it did. -/
def fnExactMirrorLayoutUptoRow : OpenClaim := { program := "yticggclpaalhgaa", sum := "67ec4d14f298a58683539aa807b210dd8ce5fb51b309ac4ac0f974c5ede6b962", func := "loop.example/g01045/laws.FnExactMirrorLayout", spec := "fnExactMirrorLayout", unfollowed := true, recurses := true, apart := false, narrowed := true }
def FnExactMirrorLayoutUptoSaid : Prop := fnExactMirrorLayoutUptoRow.holds Try.pinned (OpenSpec.upto fnExactMirrorLayoutSpec)

/-- 'laws.FnExactLayoutText', WHERE WHAT IT READS IS OF BULK AT MOST 1048576: true; the input reads as it did. -/
def fnExactLayoutTextUptoRow : OpenClaim := { program := "yticggclpaalhgaa", sum := "67ec4d14f298a58683539aa807b210dd8ce5fb51b309ac4ac0f974c5ede6b962", func := "loop.example/g01045/laws.FnExactLayoutText", spec := "fnExactLayoutText", inPlace := ["internal/abi.NoEscape", "internal/bytealg.MakeNoZero"], apart := false, narrowed := true }
def FnExactLayoutTextUptoSaid : Prop := fnExactLayoutTextUptoRow.holds Try.pinned (OpenSpec.upto fnExactLayoutTextSpec)

end Rows
end Go.Proofs.Yticggclpaalhgaa
