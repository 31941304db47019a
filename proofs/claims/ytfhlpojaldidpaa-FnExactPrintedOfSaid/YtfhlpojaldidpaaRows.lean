/-
  No cell of these rows narrows 'for every input' (looked for: loops, veiled, ifaces, maps, wideKeys, modest, calm, conditions, laid).
  DERIVED. THE GIVEN ROWS OF THIS SEAT. 16 by the template 'for every input the law returns true; each argument reads behind the call as it read before'; 0 by the template 'total and deterministic' (their statements: YtfhlpojaldidpaaTotals.lean).
  GIVEN WITH THE SEED: the statements are not yours to turn. If you find one false, say at which input.
  Laid BY PROGRAM, IN A SANDBOX (cutbox-rows.mjs): the forced cells as the released guide's own fill.sh prints them over the translation 60a75c9e383dd45c… (all of the seat's roots in one cut). By AI agents, Wed Nov 11 2026. No macro, syntax, notation, axiom, sorry.
-/
import Derived.Test.YtfhlpojaldidpaaChecked
import GoSem.Claim
import GoSem.ClaimJoined
import GoSem.ClaimMapViews
import Derived.JoinedTies
import Derived.KernelRfl
namespace Go.Proofs.Ytfhlpojaldidpaa
/- THE CELL 'sum', in the pinned program and in every row, IS THE sha256 OF THE DUMP (.gsa) THAT YtfhlpojaldidpaaProg.lean LOADS. Nothing in Lean hashes anything: it is a label: what it is worth is what the hold of that sum in a sandbox is worth. -/
noncomputable def Try.pinned : Pinned := { name := "ytfhlpojaldidpaa", sum := "60a75c9e383dd45cdc72981071cc3798f63019391b55b4f9e22e55e9b81c4b3b", checked := Try.checked }
namespace Rows
def none {H : Type} : Left H := { results := [], args := [] }

/-- 'laws.FnJams': WHATEVER THE INPUT: true; the input reads as it did. -/
def fnJamsSpec : ChangeSpec := { name := "fnJams", fn := fun _ => fun
  | [d1, d2] => { results := [.lit (.bool true)], args := [d1, d2] }
  | _ => none }
def fnJamsRow : OpenClaim := { program := "ytfhlpojaldidpaa", sum := "60a75c9e383dd45cdc72981071cc3798f63019391b55b4f9e22e55e9b81c4b3b", func := "loop.example/g01045/laws.FnJams", spec := "fnJams", unfollowed := true, recurses := true, plainKeys := false, apart := false }
def FnJamsSaid : Prop := fnJamsRow.holds Try.pinned (OpenSpec.ofChange fnJamsSpec)

/-- ITS FALSE NEIGHBOUR: 'it returns false'. Refute it at one input. -/
def fnJamsWrong : ChangeSpec := { name := "fnJams", fn := fun _ => fun
  | [d1, d2] => { results := [.lit (.bool false)], args := [d1, d2] }
  | _ => none }
def FnJamsWrongFalsely : Prop := fnJamsRow.holds Try.pinned (OpenSpec.ofChange fnJamsWrong)

/-- 'laws.FnDeadKeys': WHATEVER THE INPUT: true; the input reads as it did. -/
def fnDeadKeysSpec : ChangeSpec := { name := "fnDeadKeys", fn := fun _ => fun
  | [d] => { results := [.lit (.bool true)], args := [d] }
  | _ => none }
def fnDeadKeysRow : OpenClaim := { program := "ytfhlpojaldidpaa", sum := "60a75c9e383dd45cdc72981071cc3798f63019391b55b4f9e22e55e9b81c4b3b", func := "loop.example/g01045/laws.FnDeadKeys", spec := "fnDeadKeys", inPlace := ["internal/abi.NoEscape"], plainKeys := false, apart := false }
def FnDeadKeysSaid : Prop := fnDeadKeysRow.holds Try.pinned (OpenSpec.ofChange fnDeadKeysSpec)

/-- ITS FALSE NEIGHBOUR: 'it returns false'. Refute it at one input. -/
def fnDeadKeysWrong : ChangeSpec := { name := "fnDeadKeys", fn := fun _ => fun
  | [d] => { results := [.lit (.bool false)], args := [d] }
  | _ => none }
def FnDeadKeysWrongFalsely : Prop := fnDeadKeysRow.holds Try.pinned (OpenSpec.ofChange fnDeadKeysWrong)

/-- 'laws.FnExactSplitWords': WHATEVER THE INPUT: true; the input reads as it did. -/
def fnExactSplitWordsSpec : ChangeSpec := { name := "fnExactSplitWords", fn := fun _ => fun
  | [d] => { results := [.lit (.bool true)], args := [d] }
  | _ => none }
def fnExactSplitWordsRow : OpenClaim := { program := "ytfhlpojaldidpaa", sum := "60a75c9e383dd45cdc72981071cc3798f63019391b55b4f9e22e55e9b81c4b3b", func := "loop.example/g01045/laws.FnExactSplitWords", spec := "fnExactSplitWords", unfollowed := true, recurses := true, plainKeys := false, apart := false }
def FnExactSplitWordsSaid : Prop := fnExactSplitWordsRow.holds Try.pinned (OpenSpec.ofChange fnExactSplitWordsSpec)

/-- ITS FALSE NEIGHBOUR: 'it returns false'. Refute it at one input. -/
def fnExactSplitWordsWrong : ChangeSpec := { name := "fnExactSplitWords", fn := fun _ => fun
  | [d] => { results := [.lit (.bool false)], args := [d] }
  | _ => none }
def FnExactSplitWordsWrongFalsely : Prop := fnExactSplitWordsRow.holds Try.pinned (OpenSpec.ofChange fnExactSplitWordsWrong)

/-- 'laws.FnExactPressesFor': WHATEVER THE INPUT: true; the input reads as it did. -/
def fnExactPressesForSpec : ChangeSpec := { name := "fnExactPressesFor", fn := fun _ => fun
  | [d1, d2, d3] => { results := [.lit (.bool true)], args := [d1, d2, d3] }
  | _ => none }
def fnExactPressesForRow : OpenClaim := { program := "ytfhlpojaldidpaa", sum := "60a75c9e383dd45cdc72981071cc3798f63019391b55b4f9e22e55e9b81c4b3b", func := "loop.example/g01045/laws.FnExactPressesFor", spec := "fnExactPressesFor", plainKeys := false, apart := false }
def FnExactPressesForSaid : Prop := fnExactPressesForRow.holds Try.pinned (OpenSpec.ofChange fnExactPressesForSpec)

/-- ITS FALSE NEIGHBOUR: 'it returns false'. Refute it at one input. -/
def fnExactPressesForWrong : ChangeSpec := { name := "fnExactPressesFor", fn := fun _ => fun
  | [d1, d2, d3] => { results := [.lit (.bool false)], args := [d1, d2, d3] }
  | _ => none }
def FnExactPressesForWrongFalsely : Prop := fnExactPressesForRow.holds Try.pinned (OpenSpec.ofChange fnExactPressesForWrong)

/-- 'laws.FnExactTextOfPresses': WHATEVER THE INPUT: true; the input reads as it did. -/
def fnExactTextOfPressesSpec : ChangeSpec := { name := "fnExactTextOfPresses", fn := fun _ => fun
  | [d1, d2, d3] => { results := [.lit (.bool true)], args := [d1, d2, d3] }
  | _ => none }
def fnExactTextOfPressesRow : OpenClaim := { program := "ytfhlpojaldidpaa", sum := "60a75c9e383dd45cdc72981071cc3798f63019391b55b4f9e22e55e9b81c4b3b", func := "loop.example/g01045/laws.FnExactTextOfPresses", spec := "fnExactTextOfPresses", inPlace := ["internal/abi.NoEscape"], plainKeys := false, apart := false }
def FnExactTextOfPressesSaid : Prop := fnExactTextOfPressesRow.holds Try.pinned (OpenSpec.ofChange fnExactTextOfPressesSpec)

/-- ITS FALSE NEIGHBOUR: 'it returns false'. Refute it at one input. -/
def fnExactTextOfPressesWrong : ChangeSpec := { name := "fnExactTextOfPresses", fn := fun _ => fun
  | [d1, d2, d3] => { results := [.lit (.bool false)], args := [d1, d2, d3] }
  | _ => none }
def FnExactTextOfPressesWrongFalsely : Prop := fnExactTextOfPressesRow.holds Try.pinned (OpenSpec.ofChange fnExactTextOfPressesWrong)

/-- 'laws.FnExactMissingLetters': WHATEVER THE INPUT: true; the input reads as it did. -/
def fnExactMissingLettersSpec : ChangeSpec := { name := "fnExactMissingLetters", fn := fun _ => fun
  | [d1, d2, d3] => { results := [.lit (.bool true)], args := [d1, d2, d3] }
  | _ => none }
def fnExactMissingLettersRow : OpenClaim := { program := "ytfhlpojaldidpaa", sum := "60a75c9e383dd45cdc72981071cc3798f63019391b55b4f9e22e55e9b81c4b3b", func := "loop.example/g01045/laws.FnExactMissingLetters", spec := "fnExactMissingLetters", inPlace := ["internal/bytealg.IndexByteString", "internal/bytealg.IndexString", "internal/abi.NoEscape"], unfollowed := true, recurses := true, named := ["internal/bytealg.MaxLen"], plainKeys := false, apart := false }
def FnExactMissingLettersSaid : Prop := fnExactMissingLettersRow.holds Try.pinned (OpenSpec.ofChange fnExactMissingLettersSpec)

/-- ITS FALSE NEIGHBOUR: 'it returns false'. Refute it at one input. -/
def fnExactMissingLettersWrong : ChangeSpec := { name := "fnExactMissingLetters", fn := fun _ => fun
  | [d1, d2, d3] => { results := [.lit (.bool false)], args := [d1, d2, d3] }
  | _ => none }
def FnExactMissingLettersWrongFalsely : Prop := fnExactMissingLettersRow.holds Try.pinned (OpenSpec.ofChange fnExactMissingLettersWrong)

/-- 'laws.FnExactLettersOf': WHATEVER THE INPUT: true; the input reads as it did. -/
def fnExactLettersOfSpec : ChangeSpec := { name := "fnExactLettersOf", fn := fun _ => fun
  | [d1, d2] => { results := [.lit (.bool true)], args := [d1, d2] }
  | _ => none }
def fnExactLettersOfRow : OpenClaim := { program := "ytfhlpojaldidpaa", sum := "60a75c9e383dd45cdc72981071cc3798f63019391b55b4f9e22e55e9b81c4b3b", func := "loop.example/g01045/laws.FnExactLettersOf", spec := "fnExactLettersOf", inPlace := ["internal/abi.NoEscape"], unfollowed := true, recurses := true, plainKeys := false, apart := false }
def FnExactLettersOfSaid : Prop := fnExactLettersOfRow.holds Try.pinned (OpenSpec.ofChange fnExactLettersOfSpec)

/-- ITS FALSE NEIGHBOUR: 'it returns false'. Refute it at one input. -/
def fnExactLettersOfWrong : ChangeSpec := { name := "fnExactLettersOf", fn := fun _ => fun
  | [d1, d2] => { results := [.lit (.bool false)], args := [d1, d2] }
  | _ => none }
def FnExactLettersOfWrongFalsely : Prop := fnExactLettersOfRow.holds Try.pinned (OpenSpec.ofChange fnExactLettersOfWrong)

/-- 'laws.FnExactValidBasket': WHATEVER THE INPUT: true; the input reads as it did. -/
def fnExactValidBasketSpec : ChangeSpec := { name := "fnExactValidBasket", fn := fun _ => fun
  | [d] => { results := [.lit (.bool true)], args := [d] }
  | _ => none }
def fnExactValidBasketRow : OpenClaim := { program := "ytfhlpojaldidpaa", sum := "60a75c9e383dd45cdc72981071cc3798f63019391b55b4f9e22e55e9b81c4b3b", func := "loop.example/g01045/laws.FnExactValidBasket", spec := "fnExactValidBasket", plainKeys := false, apart := false }
def FnExactValidBasketSaid : Prop := fnExactValidBasketRow.holds Try.pinned (OpenSpec.ofChange fnExactValidBasketSpec)

/-- ITS FALSE NEIGHBOUR: 'it returns false'. Refute it at one input. -/
def fnExactValidBasketWrong : ChangeSpec := { name := "fnExactValidBasket", fn := fun _ => fun
  | [d] => { results := [.lit (.bool false)], args := [d] }
  | _ => none }
def FnExactValidBasketWrongFalsely : Prop := fnExactValidBasketRow.holds Try.pinned (OpenSpec.ofChange fnExactValidBasketWrong)

/-- 'laws.FnExactValidStrokes': WHATEVER THE INPUT: true; the input reads as it did. -/
def fnExactValidStrokesSpec : ChangeSpec := { name := "fnExactValidStrokes", fn := fun _ => fun
  | [d1, d2] => { results := [.lit (.bool true)], args := [d1, d2] }
  | _ => none }
def fnExactValidStrokesRow : OpenClaim := { program := "ytfhlpojaldidpaa", sum := "60a75c9e383dd45cdc72981071cc3798f63019391b55b4f9e22e55e9b81c4b3b", func := "loop.example/g01045/laws.FnExactValidStrokes", spec := "fnExactValidStrokes", plainKeys := false, apart := false }
def FnExactValidStrokesSaid : Prop := fnExactValidStrokesRow.holds Try.pinned (OpenSpec.ofChange fnExactValidStrokesSpec)

/-- ITS FALSE NEIGHBOUR: 'it returns false'. Refute it at one input. -/
def fnExactValidStrokesWrong : ChangeSpec := { name := "fnExactValidStrokes", fn := fun _ => fun
  | [d1, d2] => { results := [.lit (.bool false)], args := [d1, d2] }
  | _ => none }
def FnExactValidStrokesWrongFalsely : Prop := fnExactValidStrokesRow.holds Try.pinned (OpenSpec.ofChange fnExactValidStrokesWrong)

/-- 'laws.FnExactMustWait': WHATEVER THE INPUT: true; the input reads as it did. -/
def fnExactMustWaitSpec : ChangeSpec := { name := "fnExactMustWait", fn := fun _ => fun
  | [d1, d2, d3] => { results := [.lit (.bool true)], args := [d1, d2, d3] }
  | _ => none }
def fnExactMustWaitRow : OpenClaim := { program := "ytfhlpojaldidpaa", sum := "60a75c9e383dd45cdc72981071cc3798f63019391b55b4f9e22e55e9b81c4b3b", func := "loop.example/g01045/laws.FnExactMustWait", spec := "fnExactMustWait", plainKeys := false, apart := false }
def FnExactMustWaitSaid : Prop := fnExactMustWaitRow.holds Try.pinned (OpenSpec.ofChange fnExactMustWaitSpec)

/-- ITS FALSE NEIGHBOUR: 'it returns false'. Refute it at one input. -/
def fnExactMustWaitWrong : ChangeSpec := { name := "fnExactMustWait", fn := fun _ => fun
  | [d1, d2, d3] => { results := [.lit (.bool false)], args := [d1, d2, d3] }
  | _ => none }
def FnExactMustWaitWrongFalsely : Prop := fnExactMustWaitRow.holds Try.pinned (OpenSpec.ofChange fnExactMustWaitWrong)

/-- 'laws.FnExactFirstJam': WHATEVER THE INPUT: true; the input reads as it did. -/
def fnExactFirstJamSpec : ChangeSpec := { name := "fnExactFirstJam", fn := fun _ => fun
  | [d1, d2] => { results := [.lit (.bool true)], args := [d1, d2] }
  | _ => none }
def fnExactFirstJamRow : OpenClaim := { program := "ytfhlpojaldidpaa", sum := "60a75c9e383dd45cdc72981071cc3798f63019391b55b4f9e22e55e9b81c4b3b", func := "loop.example/g01045/laws.FnExactFirstJam", spec := "fnExactFirstJam", plainKeys := false, apart := false }
def FnExactFirstJamSaid : Prop := fnExactFirstJamRow.holds Try.pinned (OpenSpec.ofChange fnExactFirstJamSpec)

/-- ITS FALSE NEIGHBOUR: 'it returns false'. Refute it at one input. -/
def fnExactFirstJamWrong : ChangeSpec := { name := "fnExactFirstJam", fn := fun _ => fun
  | [d1, d2] => { results := [.lit (.bool false)], args := [d1, d2] }
  | _ => none }
def FnExactFirstJamWrongFalsely : Prop := fnExactFirstJamRow.holds Try.pinned (OpenSpec.ofChange fnExactFirstJamWrong)

/-- 'laws.FnExactCountJams': WHATEVER THE INPUT: true; the input reads as it did. -/
def fnExactCountJamsSpec : ChangeSpec := { name := "fnExactCountJams", fn := fun _ => fun
  | [d1, d2] => { results := [.lit (.bool true)], args := [d1, d2] }
  | _ => none }
def fnExactCountJamsRow : OpenClaim := { program := "ytfhlpojaldidpaa", sum := "60a75c9e383dd45cdc72981071cc3798f63019391b55b4f9e22e55e9b81c4b3b", func := "loop.example/g01045/laws.FnExactCountJams", spec := "fnExactCountJams", plainKeys := false, apart := false }
def FnExactCountJamsSaid : Prop := fnExactCountJamsRow.holds Try.pinned (OpenSpec.ofChange fnExactCountJamsSpec)

/-- ITS FALSE NEIGHBOUR: 'it returns false'. Refute it at one input. -/
def fnExactCountJamsWrong : ChangeSpec := { name := "fnExactCountJams", fn := fun _ => fun
  | [d1, d2] => { results := [.lit (.bool false)], args := [d1, d2] }
  | _ => none }
def FnExactCountJamsWrongFalsely : Prop := fnExactCountJamsRow.holds Try.pinned (OpenSpec.ofChange fnExactCountJamsWrong)

/-- 'laws.FnExactPrintedOf': WHATEVER THE INPUT: true; the input reads as it did. -/
def fnExactPrintedOfSpec : ChangeSpec := { name := "fnExactPrintedOf", fn := fun _ => fun
  | [d1, d2] => { results := [.lit (.bool true)], args := [d1, d2] }
  | _ => none }
def fnExactPrintedOfRow : OpenClaim := { program := "ytfhlpojaldidpaa", sum := "60a75c9e383dd45cdc72981071cc3798f63019391b55b4f9e22e55e9b81c4b3b", func := "loop.example/g01045/laws.FnExactPrintedOf", spec := "fnExactPrintedOf", unfollowed := true, recurses := true, plainKeys := false, apart := false }
def FnExactPrintedOfSaid : Prop := fnExactPrintedOfRow.holds Try.pinned (OpenSpec.ofChange fnExactPrintedOfSpec)

/-- ITS FALSE NEIGHBOUR: 'it returns false'. Refute it at one input. -/
def fnExactPrintedOfWrong : ChangeSpec := { name := "fnExactPrintedOf", fn := fun _ => fun
  | [d1, d2] => { results := [.lit (.bool false)], args := [d1, d2] }
  | _ => none }
def FnExactPrintedOfWrongFalsely : Prop := fnExactPrintedOfRow.holds Try.pinned (OpenSpec.ofChange fnExactPrintedOfWrong)

/-- 'laws.FnExactFastestStrokes': WHATEVER THE INPUT: true; the input reads as it did. -/
def fnExactFastestStrokesSpec : ChangeSpec := { name := "fnExactFastestStrokes", fn := fun _ => fun
  | [d1, d2] => { results := [.lit (.bool true)], args := [d1, d2] }
  | _ => none }
def fnExactFastestStrokesRow : OpenClaim := { program := "ytfhlpojaldidpaa", sum := "60a75c9e383dd45cdc72981071cc3798f63019391b55b4f9e22e55e9b81c4b3b", func := "loop.example/g01045/laws.FnExactFastestStrokes", spec := "fnExactFastestStrokes", unfollowed := true, recurses := true, plainKeys := false, apart := false }
def FnExactFastestStrokesSaid : Prop := fnExactFastestStrokesRow.holds Try.pinned (OpenSpec.ofChange fnExactFastestStrokesSpec)

/-- ITS FALSE NEIGHBOUR: 'it returns false'. Refute it at one input. -/
def fnExactFastestStrokesWrong : ChangeSpec := { name := "fnExactFastestStrokes", fn := fun _ => fun
  | [d1, d2] => { results := [.lit (.bool false)], args := [d1, d2] }
  | _ => none }
def FnExactFastestStrokesWrongFalsely : Prop := fnExactFastestStrokesRow.holds Try.pinned (OpenSpec.ofChange fnExactFastestStrokesWrong)

/-- 'laws.FnExactTicksFor': WHATEVER THE INPUT: true; the input reads as it did. -/
def fnExactTicksForSpec : ChangeSpec := { name := "fnExactTicksFor", fn := fun _ => fun
  | [d1, d2] => { results := [.lit (.bool true)], args := [d1, d2] }
  | _ => none }
def fnExactTicksForRow : OpenClaim := { program := "ytfhlpojaldidpaa", sum := "60a75c9e383dd45cdc72981071cc3798f63019391b55b4f9e22e55e9b81c4b3b", func := "loop.example/g01045/laws.FnExactTicksFor", spec := "fnExactTicksFor", unfollowed := true, recurses := true, plainKeys := false, apart := false }
def FnExactTicksForSaid : Prop := fnExactTicksForRow.holds Try.pinned (OpenSpec.ofChange fnExactTicksForSpec)

/-- ITS FALSE NEIGHBOUR: 'it returns false'. Refute it at one input. -/
def fnExactTicksForWrong : ChangeSpec := { name := "fnExactTicksFor", fn := fun _ => fun
  | [d1, d2] => { results := [.lit (.bool false)], args := [d1, d2] }
  | _ => none }
def FnExactTicksForWrongFalsely : Prop := fnExactTicksForRow.holds Try.pinned (OpenSpec.ofChange fnExactTicksForWrong)

/-- 'laws.FnExactSlowestPair': WHATEVER THE INPUT: true; the input reads as it did. -/
def fnExactSlowestPairSpec : ChangeSpec := { name := "fnExactSlowestPair", fn := fun _ => fun
  | [d1, d2] => { results := [.lit (.bool true)], args := [d1, d2] }
  | _ => none }
def fnExactSlowestPairRow : OpenClaim := { program := "ytfhlpojaldidpaa", sum := "60a75c9e383dd45cdc72981071cc3798f63019391b55b4f9e22e55e9b81c4b3b", func := "loop.example/g01045/laws.FnExactSlowestPair", spec := "fnExactSlowestPair", unfollowed := true, recurses := true, plainKeys := false, apart := false }
def FnExactSlowestPairSaid : Prop := fnExactSlowestPairRow.holds Try.pinned (OpenSpec.ofChange fnExactSlowestPairSpec)

/-- ITS FALSE NEIGHBOUR: 'it returns false'. Refute it at one input. -/
def fnExactSlowestPairWrong : ChangeSpec := { name := "fnExactSlowestPair", fn := fun _ => fun
  | [d1, d2] => { results := [.lit (.bool false)], args := [d1, d2] }
  | _ => none }
def FnExactSlowestPairWrongFalsely : Prop := fnExactSlowestPairRow.holds Try.pinned (OpenSpec.ofChange fnExactSlowestPairWrong)

/- THE SECOND FORM. 'bulk': how many values and letters a reading holds, each counted each time it is reached (what is shared counts as often as it is met; a slice's spare places count too). A statement '..UptoSaid' is the law's where the arguments, and the package variables that the reading takes, are together of bulk at most 1048576: NARROWER than '..Said'. Prove '..Said' where nothing that the law and all that it calls make is longer than what came in: it says more and counts as full. Else prove '..UptoSaid'. A law counts once. -/
mutual
def uptoBulk {H : Type} : DataW H → Nat
  | .lit (.string bytes) => bytes.length + 1
  | .lit _ => 1
  | .nil => 1
  | .ptr d => uptoBulk d + 1
  | .slice elems spare => uptoBulkAll elems + uptoBulkAll spare + 1
  | .agg parts => uptoBulkAll parts + 1
  | .iface _ d => uptoBulk d + 1
  | .map entries => uptoBulkEntries entries + 1
  | .held _ => 1
def uptoBulkAll {H : Type} : List (DataW H) → Nat
  | [] => 0
  | d :: r => uptoBulk d + uptoBulkAll r
def uptoBulkEntries {H : Type} : List (Lit × DataW H) → Nat
  | [] => 0
  | x :: r => uptoBulkEntry x + uptoBulkEntries r
def uptoBulkEntry {H : Type} : Lit × DataW H → Nat
  | (.string bytes, d) => bytes.length + uptoBulk d + 1
  | (_, d) => uptoBulk d + 1
 end
def uptoSmall : (H : Type) → List (DataW H) → Bool := fun _ ds => decide (uptoBulkAll ds ≤ 1048576)
def OpenSpec.upto (s : _root_.Go.ChangeSpec) : _root_.Go.OpenSpec := { _root_.Go.OpenSpec.ofChange s with cond := some uptoSmall }

/-- 'laws.FnJams', WHERE WHAT IT READS IS OF BULK AT MOST 1048576: true; the input reads as it did. -/
def fnJamsUptoRow : OpenClaim := { program := "ytfhlpojaldidpaa", sum := "60a75c9e383dd45cdc72981071cc3798f63019391b55b4f9e22e55e9b81c4b3b", func := "loop.example/g01045/laws.FnJams", spec := "fnJams", unfollowed := true, recurses := true, plainKeys := false, apart := false, narrowed := true }
def FnJamsUptoSaid : Prop := fnJamsUptoRow.holds Try.pinned (OpenSpec.upto fnJamsSpec)

/-- 'laws.FnDeadKeys', WHERE WHAT IT READS IS OF BULK AT MOST 1048576: true; the input reads as it did. -/
def fnDeadKeysUptoRow : OpenClaim := { program := "ytfhlpojaldidpaa", sum := "60a75c9e383dd45cdc72981071cc3798f63019391b55b4f9e22e55e9b81c4b3b", func := "loop.example/g01045/laws.FnDeadKeys", spec := "fnDeadKeys", inPlace := ["internal/abi.NoEscape"], plainKeys := false, apart := false, narrowed := true }
def FnDeadKeysUptoSaid : Prop := fnDeadKeysUptoRow.holds Try.pinned (OpenSpec.upto fnDeadKeysSpec)

/-- 'laws.FnExactSplitWords', WHERE WHAT IT READS IS OF BULK AT MOST 1048576: true; the input reads as it did. -/
def fnExactSplitWordsUptoRow : OpenClaim := { program := "ytfhlpojaldidpaa", sum := "60a75c9e383dd45cdc72981071cc3798f63019391b55b4f9e22e55e9b81c4b3b", func := "loop.example/g01045/laws.FnExactSplitWords", spec := "fnExactSplitWords", unfollowed := true, recurses := true, plainKeys := false, apart := false, narrowed := true }
def FnExactSplitWordsUptoSaid : Prop := fnExactSplitWordsUptoRow.holds Try.pinned (OpenSpec.upto fnExactSplitWordsSpec)

/-- 'laws.FnExactPressesFor', WHERE WHAT IT READS IS OF BULK AT MOST 1048576: true; the input reads as it did. -/
def fnExactPressesForUptoRow : OpenClaim := { program := "ytfhlpojaldidpaa", sum := "60a75c9e383dd45cdc72981071cc3798f63019391b55b4f9e22e55e9b81c4b3b", func := "loop.example/g01045/laws.FnExactPressesFor", spec := "fnExactPressesFor", plainKeys := false, apart := false, narrowed := true }
def FnExactPressesForUptoSaid : Prop := fnExactPressesForUptoRow.holds Try.pinned (OpenSpec.upto fnExactPressesForSpec)

/-- 'laws.FnExactTextOfPresses', WHERE WHAT IT READS IS OF BULK AT MOST 1048576: true; the input reads as it did. -/
def fnExactTextOfPressesUptoRow : OpenClaim := { program := "ytfhlpojaldidpaa", sum := "60a75c9e383dd45cdc72981071cc3798f63019391b55b4f9e22e55e9b81c4b3b", func := "loop.example/g01045/laws.FnExactTextOfPresses", spec := "fnExactTextOfPresses", inPlace := ["internal/abi.NoEscape"], plainKeys := false, apart := false, narrowed := true }
def FnExactTextOfPressesUptoSaid : Prop := fnExactTextOfPressesUptoRow.holds Try.pinned (OpenSpec.upto fnExactTextOfPressesSpec)

/-- 'laws.FnExactMissingLetters', WHERE WHAT IT READS IS OF BULK AT MOST 1048576: true; the input reads as it did. -/
def fnExactMissingLettersUptoRow : OpenClaim := { program := "ytfhlpojaldidpaa", sum := "60a75c9e383dd45cdc72981071cc3798f63019391b55b4f9e22e55e9b81c4b3b", func := "loop.example/g01045/laws.FnExactMissingLetters", spec := "fnExactMissingLetters", inPlace := ["internal/bytealg.IndexByteString", "internal/bytealg.IndexString", "internal/abi.NoEscape"], unfollowed := true, recurses := true, named := ["internal/bytealg.MaxLen"], plainKeys := false, apart := false, narrowed := true }
def FnExactMissingLettersUptoSaid : Prop := fnExactMissingLettersUptoRow.holds Try.pinned (OpenSpec.upto fnExactMissingLettersSpec)

/-- 'laws.FnExactLettersOf', WHERE WHAT IT READS IS OF BULK AT MOST 1048576: true; the input reads as it did. -/
def fnExactLettersOfUptoRow : OpenClaim := { program := "ytfhlpojaldidpaa", sum := "60a75c9e383dd45cdc72981071cc3798f63019391b55b4f9e22e55e9b81c4b3b", func := "loop.example/g01045/laws.FnExactLettersOf", spec := "fnExactLettersOf", inPlace := ["internal/abi.NoEscape"], unfollowed := true, recurses := true, plainKeys := false, apart := false, narrowed := true }
def FnExactLettersOfUptoSaid : Prop := fnExactLettersOfUptoRow.holds Try.pinned (OpenSpec.upto fnExactLettersOfSpec)

/-- 'laws.FnExactValidBasket', WHERE WHAT IT READS IS OF BULK AT MOST 1048576: true; the input reads as it did. -/
def fnExactValidBasketUptoRow : OpenClaim := { program := "ytfhlpojaldidpaa", sum := "60a75c9e383dd45cdc72981071cc3798f63019391b55b4f9e22e55e9b81c4b3b", func := "loop.example/g01045/laws.FnExactValidBasket", spec := "fnExactValidBasket", plainKeys := false, apart := false, narrowed := true }
def FnExactValidBasketUptoSaid : Prop := fnExactValidBasketUptoRow.holds Try.pinned (OpenSpec.upto fnExactValidBasketSpec)

/-- 'laws.FnExactValidStrokes', WHERE WHAT IT READS IS OF BULK AT MOST 1048576: true; the input reads as it did. -/
def fnExactValidStrokesUptoRow : OpenClaim := { program := "ytfhlpojaldidpaa", sum := "60a75c9e383dd45cdc72981071cc3798f63019391b55b4f9e22e55e9b81c4b3b", func := "loop.example/g01045/laws.FnExactValidStrokes", spec := "fnExactValidStrokes", plainKeys := false, apart := false, narrowed := true }
def FnExactValidStrokesUptoSaid : Prop := fnExactValidStrokesUptoRow.holds Try.pinned (OpenSpec.upto fnExactValidStrokesSpec)

/-- 'laws.FnExactMustWait', WHERE WHAT IT READS IS OF BULK AT MOST 1048576: true; the input reads as it did. -/
def fnExactMustWaitUptoRow : OpenClaim := { program := "ytfhlpojaldidpaa", sum := "60a75c9e383dd45cdc72981071cc3798f63019391b55b4f9e22e55e9b81c4b3b", func := "loop.example/g01045/laws.FnExactMustWait", spec := "fnExactMustWait", plainKeys := false, apart := false, narrowed := true }
def FnExactMustWaitUptoSaid : Prop := fnExactMustWaitUptoRow.holds Try.pinned (OpenSpec.upto fnExactMustWaitSpec)

/-- 'laws.FnExactFirstJam', WHERE WHAT IT READS IS OF BULK AT MOST 1048576: true; the input reads as it did. -/
def fnExactFirstJamUptoRow : OpenClaim := { program := "ytfhlpojaldidpaa", sum := "60a75c9e383dd45cdc72981071cc3798f63019391b55b4f9e22e55e9b81c4b3b", func := "loop.example/g01045/laws.FnExactFirstJam", spec := "fnExactFirstJam", plainKeys := false, apart := false, narrowed := true }
def FnExactFirstJamUptoSaid : Prop := fnExactFirstJamUptoRow.holds Try.pinned (OpenSpec.upto fnExactFirstJamSpec)

/-- 'laws.FnExactCountJams', WHERE WHAT IT READS IS OF BULK AT MOST 1048576: true; the input reads as it did. -/
def fnExactCountJamsUptoRow : OpenClaim := { program := "ytfhlpojaldidpaa", sum := "60a75c9e383dd45cdc72981071cc3798f63019391b55b4f9e22e55e9b81c4b3b", func := "loop.example/g01045/laws.FnExactCountJams", spec := "fnExactCountJams", plainKeys := false, apart := false, narrowed := true }
def FnExactCountJamsUptoSaid : Prop := fnExactCountJamsUptoRow.holds Try.pinned (OpenSpec.upto fnExactCountJamsSpec)

/-- 'laws.FnExactPrintedOf', WHERE WHAT IT READS IS OF BULK AT MOST 1048576: true; the input reads as it did. -/
def fnExactPrintedOfUptoRow : OpenClaim := { program := "ytfhlpojaldidpaa", sum := "60a75c9e383dd45cdc72981071cc3798f63019391b55b4f9e22e55e9b81c4b3b", func := "loop.example/g01045/laws.FnExactPrintedOf", spec := "fnExactPrintedOf", unfollowed := true, recurses := true, plainKeys := false, apart := false, narrowed := true }
def FnExactPrintedOfUptoSaid : Prop := fnExactPrintedOfUptoRow.holds Try.pinned (OpenSpec.upto fnExactPrintedOfSpec)

/-- 'laws.FnExactFastestStrokes', WHERE WHAT IT READS IS OF BULK AT MOST 1048576: true; the input reads as it did. -/
def fnExactFastestStrokesUptoRow : OpenClaim := { program := "ytfhlpojaldidpaa", sum := "60a75c9e383dd45cdc72981071cc3798f63019391b55b4f9e22e55e9b81c4b3b", func := "loop.example/g01045/laws.FnExactFastestStrokes", spec := "fnExactFastestStrokes", unfollowed := true, recurses := true, plainKeys := false, apart := false, narrowed := true }
def FnExactFastestStrokesUptoSaid : Prop := fnExactFastestStrokesUptoRow.holds Try.pinned (OpenSpec.upto fnExactFastestStrokesSpec)

/-- 'laws.FnExactTicksFor', WHERE WHAT IT READS IS OF BULK AT MOST 1048576: true; the input reads as it did. -/
def fnExactTicksForUptoRow : OpenClaim := { program := "ytfhlpojaldidpaa", sum := "60a75c9e383dd45cdc72981071cc3798f63019391b55b4f9e22e55e9b81c4b3b", func := "loop.example/g01045/laws.FnExactTicksFor", spec := "fnExactTicksFor", unfollowed := true, recurses := true, plainKeys := false, apart := false, narrowed := true }
def FnExactTicksForUptoSaid : Prop := fnExactTicksForUptoRow.holds Try.pinned (OpenSpec.upto fnExactTicksForSpec)

/-- 'laws.FnExactSlowestPair', WHERE WHAT IT READS IS OF BULK AT MOST 1048576: true; the input reads as it did. -/
def fnExactSlowestPairUptoRow : OpenClaim := { program := "ytfhlpojaldidpaa", sum := "60a75c9e383dd45cdc72981071cc3798f63019391b55b4f9e22e55e9b81c4b3b", func := "loop.example/g01045/laws.FnExactSlowestPair", spec := "fnExactSlowestPair", unfollowed := true, recurses := true, plainKeys := false, apart := false, narrowed := true }
def FnExactSlowestPairUptoSaid : Prop := fnExactSlowestPairUptoRow.holds Try.pinned (OpenSpec.upto fnExactSlowestPairSpec)

end Rows
end Go.Proofs.Ytfhlpojaldidpaa
