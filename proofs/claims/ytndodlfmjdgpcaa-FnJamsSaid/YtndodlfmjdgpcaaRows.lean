/-
  No cell of these rows narrows 'for every input' (looked for: loops, veiled, ifaces, maps, wideKeys, modest, calm, conditions, laid).
  DERIVED. THE GIVEN ROWS OF THIS SEAT. 7 by the template 'for every input the law returns true; each argument reads behind the call as it read before'; 0 by the template 'total and deterministic' (their statements: YtndodlfmjdgpcaaTotals.lean).
  GIVEN WITH THE SEED: the statements are not yours to turn. If you find one false, say at which input.
  Laid BY PROGRAM, IN A SANDBOX (cutbox-rows.mjs): the forced cells as the released guide's own fill.sh prints them over the translation a6fcea9a965fc94e… (all of the seat's roots in one cut). By AI agents, Wed Nov 11 2026. No macro, syntax, notation, axiom, sorry.
-/
import Derived.Test.YtndodlfmjdgpcaaChecked
import GoSem.Claim
import GoSem.ClaimJoined
import GoSem.ClaimMapViews
import Derived.JoinedTies
import Derived.KernelRfl
namespace Go.Proofs.Ytndodlfmjdgpcaa
/- THE CELL 'sum', in the pinned program and in every row, IS THE sha256 OF THE DUMP (.gsa) THAT YtndodlfmjdgpcaaProg.lean LOADS. Nothing in Lean hashes anything: it is a label: what it is worth is what the hold of that sum in a sandbox is worth. -/
noncomputable def Try.pinned : Pinned := { name := "ytndodlfmjdgpcaa", sum := "a6fcea9a965fc94e5b68ab466b21a63c582262cb597e5a9f3189cea56f4115aa", checked := Try.checked }
namespace Rows
def none {H : Type} : Left H := { results := [], args := [] }

/-- 'laws.FnJams': WHATEVER THE INPUT: true; the input reads as it did. -/
def fnJamsSpec : ChangeSpec := { name := "fnJams", fn := fun _ => fun
  | [d1, d2] => { results := [.lit (.bool true)], args := [d1, d2] }
  | _ => none }
def fnJamsRow : OpenClaim := { program := "ytndodlfmjdgpcaa", sum := "a6fcea9a965fc94e5b68ab466b21a63c582262cb597e5a9f3189cea56f4115aa", func := "loop.example/g01045/laws.FnJams", spec := "fnJams", unfollowed := true, recurses := true, plainKeys := false, apart := false }
def FnJamsSaid : Prop := fnJamsRow.holds Try.pinned (OpenSpec.ofChange fnJamsSpec)

/-- ITS FALSE NEIGHBOUR: 'it returns false'. Refute it at one input. -/
def fnJamsWrong : ChangeSpec := { name := "fnJams", fn := fun _ => fun
  | [d1, d2] => { results := [.lit (.bool false)], args := [d1, d2] }
  | _ => none }
def FnJamsWrongFalsely : Prop := fnJamsRow.holds Try.pinned (OpenSpec.ofChange fnJamsWrong)

/-- 'laws.FnDeadKeys': WHATEVER THE INPUT: true; the input reads as it did. -/
def fnDeadKeysSpec : ChangeSpec := { name := "fnDeadKeys", fn := fun _ => fun
  | [d] => { results := [.lit (.bool true)], args := [d] }
  | _ => none }
def fnDeadKeysRow : OpenClaim := { program := "ytndodlfmjdgpcaa", sum := "a6fcea9a965fc94e5b68ab466b21a63c582262cb597e5a9f3189cea56f4115aa", func := "loop.example/g01045/laws.FnDeadKeys", spec := "fnDeadKeys", inPlace := ["internal/abi.NoEscape"], plainKeys := false, apart := false }
def FnDeadKeysSaid : Prop := fnDeadKeysRow.holds Try.pinned (OpenSpec.ofChange fnDeadKeysSpec)

/-- ITS FALSE NEIGHBOUR: 'it returns false'. Refute it at one input. -/
def fnDeadKeysWrong : ChangeSpec := { name := "fnDeadKeys", fn := fun _ => fun
  | [d] => { results := [.lit (.bool false)], args := [d] }
  | _ => none }
def FnDeadKeysWrongFalsely : Prop := fnDeadKeysRow.holds Try.pinned (OpenSpec.ofChange fnDeadKeysWrong)

/-- 'laws.FnExactSplitWords': WHATEVER THE INPUT: true; the input reads as it did. -/
def fnExactSplitWordsSpec : ChangeSpec := { name := "fnExactSplitWords", fn := fun _ => fun
  | [d] => { results := [.lit (.bool true)], args := [d] }
  | _ => none }
def fnExactSplitWordsRow : OpenClaim := { program := "ytndodlfmjdgpcaa", sum := "a6fcea9a965fc94e5b68ab466b21a63c582262cb597e5a9f3189cea56f4115aa", func := "loop.example/g01045/laws.FnExactSplitWords", spec := "fnExactSplitWords", unfollowed := true, recurses := true, plainKeys := false, apart := false }
def FnExactSplitWordsSaid : Prop := fnExactSplitWordsRow.holds Try.pinned (OpenSpec.ofChange fnExactSplitWordsSpec)

/-- ITS FALSE NEIGHBOUR: 'it returns false'. Refute it at one input. -/
def fnExactSplitWordsWrong : ChangeSpec := { name := "fnExactSplitWords", fn := fun _ => fun
  | [d] => { results := [.lit (.bool false)], args := [d] }
  | _ => none }
def FnExactSplitWordsWrongFalsely : Prop := fnExactSplitWordsRow.holds Try.pinned (OpenSpec.ofChange fnExactSplitWordsWrong)

/-- 'laws.FnExactPressesFor': WHATEVER THE INPUT: true; the input reads as it did. -/
def fnExactPressesForSpec : ChangeSpec := { name := "fnExactPressesFor", fn := fun _ => fun
  | [d1, d2, d3] => { results := [.lit (.bool true)], args := [d1, d2, d3] }
  | _ => none }
def fnExactPressesForRow : OpenClaim := { program := "ytndodlfmjdgpcaa", sum := "a6fcea9a965fc94e5b68ab466b21a63c582262cb597e5a9f3189cea56f4115aa", func := "loop.example/g01045/laws.FnExactPressesFor", spec := "fnExactPressesFor", plainKeys := false, apart := false }
def FnExactPressesForSaid : Prop := fnExactPressesForRow.holds Try.pinned (OpenSpec.ofChange fnExactPressesForSpec)

/-- ITS FALSE NEIGHBOUR: 'it returns false'. Refute it at one input. -/
def fnExactPressesForWrong : ChangeSpec := { name := "fnExactPressesFor", fn := fun _ => fun
  | [d1, d2, d3] => { results := [.lit (.bool false)], args := [d1, d2, d3] }
  | _ => none }
def FnExactPressesForWrongFalsely : Prop := fnExactPressesForRow.holds Try.pinned (OpenSpec.ofChange fnExactPressesForWrong)

/-- 'laws.FnExactTextOfPresses': WHATEVER THE INPUT: true; the input reads as it did. -/
def fnExactTextOfPressesSpec : ChangeSpec := { name := "fnExactTextOfPresses", fn := fun _ => fun
  | [d1, d2, d3] => { results := [.lit (.bool true)], args := [d1, d2, d3] }
  | _ => none }
def fnExactTextOfPressesRow : OpenClaim := { program := "ytndodlfmjdgpcaa", sum := "a6fcea9a965fc94e5b68ab466b21a63c582262cb597e5a9f3189cea56f4115aa", func := "loop.example/g01045/laws.FnExactTextOfPresses", spec := "fnExactTextOfPresses", inPlace := ["internal/abi.NoEscape"], plainKeys := false, apart := false }
def FnExactTextOfPressesSaid : Prop := fnExactTextOfPressesRow.holds Try.pinned (OpenSpec.ofChange fnExactTextOfPressesSpec)

/-- ITS FALSE NEIGHBOUR: 'it returns false'. Refute it at one input. -/
def fnExactTextOfPressesWrong : ChangeSpec := { name := "fnExactTextOfPresses", fn := fun _ => fun
  | [d1, d2, d3] => { results := [.lit (.bool false)], args := [d1, d2, d3] }
  | _ => none }
def FnExactTextOfPressesWrongFalsely : Prop := fnExactTextOfPressesRow.holds Try.pinned (OpenSpec.ofChange fnExactTextOfPressesWrong)

/-- 'laws.FnExactMissingLetters': WHATEVER THE INPUT: true; the input reads as it did. -/
def fnExactMissingLettersSpec : ChangeSpec := { name := "fnExactMissingLetters", fn := fun _ => fun
  | [d1, d2, d3] => { results := [.lit (.bool true)], args := [d1, d2, d3] }
  | _ => none }
def fnExactMissingLettersRow : OpenClaim := { program := "ytndodlfmjdgpcaa", sum := "a6fcea9a965fc94e5b68ab466b21a63c582262cb597e5a9f3189cea56f4115aa", func := "loop.example/g01045/laws.FnExactMissingLetters", spec := "fnExactMissingLetters", inPlace := ["internal/bytealg.IndexByteString", "internal/bytealg.IndexString", "internal/abi.NoEscape"], unfollowed := true, recurses := true, named := ["internal/bytealg.MaxLen"], plainKeys := false, apart := false }
def FnExactMissingLettersSaid : Prop := fnExactMissingLettersRow.holds Try.pinned (OpenSpec.ofChange fnExactMissingLettersSpec)

/-- ITS FALSE NEIGHBOUR: 'it returns false'. Refute it at one input. -/
def fnExactMissingLettersWrong : ChangeSpec := { name := "fnExactMissingLetters", fn := fun _ => fun
  | [d1, d2, d3] => { results := [.lit (.bool false)], args := [d1, d2, d3] }
  | _ => none }
def FnExactMissingLettersWrongFalsely : Prop := fnExactMissingLettersRow.holds Try.pinned (OpenSpec.ofChange fnExactMissingLettersWrong)

/-- 'laws.FnExactLettersOf': WHATEVER THE INPUT: true; the input reads as it did. -/
def fnExactLettersOfSpec : ChangeSpec := { name := "fnExactLettersOf", fn := fun _ => fun
  | [d1, d2] => { results := [.lit (.bool true)], args := [d1, d2] }
  | _ => none }
def fnExactLettersOfRow : OpenClaim := { program := "ytndodlfmjdgpcaa", sum := "a6fcea9a965fc94e5b68ab466b21a63c582262cb597e5a9f3189cea56f4115aa", func := "loop.example/g01045/laws.FnExactLettersOf", spec := "fnExactLettersOf", inPlace := ["internal/abi.NoEscape"], unfollowed := true, recurses := true, plainKeys := false, apart := false }
def FnExactLettersOfSaid : Prop := fnExactLettersOfRow.holds Try.pinned (OpenSpec.ofChange fnExactLettersOfSpec)

/-- ITS FALSE NEIGHBOUR: 'it returns false'. Refute it at one input. -/
def fnExactLettersOfWrong : ChangeSpec := { name := "fnExactLettersOf", fn := fun _ => fun
  | [d1, d2] => { results := [.lit (.bool false)], args := [d1, d2] }
  | _ => none }
def FnExactLettersOfWrongFalsely : Prop := fnExactLettersOfRow.holds Try.pinned (OpenSpec.ofChange fnExactLettersOfWrong)

/- THE SECOND FORM. 'bulk': how many values and letters a reading holds, each counted each time it is reached (what is shared counts as often as it is met; a slice's spare places count too). A statement '..UptoSaid' is the law's where the arguments, and the package variables that the reading takes, are together of bulk at most 1048576: NARROWER than '..Said'. Prove '..Said' where nothing that the law and all that it calls make is longer than what came in: it says more and counts as full. Else prove '..UptoSaid'. A law counts once. -/
mutual
def uptoBulk {H : Type} : DataW H → Nat
  | .lit (.string bytes) => bytes.length + 1
  | .lit _ => 1
  | .nil => 1
  | .ptr d => uptoBulk d + 1
  | .slice elems spare => uptoBulkAll elems + uptoBulkAll spare + 1
  | .agg parts => uptoBulkAll parts + 1
  | .iface _ d => uptoBulk d + 1
  | .map entries => uptoBulkEntries entries + 1
  | .held _ => 1
def uptoBulkAll {H : Type} : List (DataW H) → Nat
  | [] => 0
  | d :: r => uptoBulk d + uptoBulkAll r
def uptoBulkEntries {H : Type} : List (Lit × DataW H) → Nat
  | [] => 0
  | x :: r => uptoBulkEntry x + uptoBulkEntries r
def uptoBulkEntry {H : Type} : Lit × DataW H → Nat
  | (.string bytes, d) => bytes.length + uptoBulk d + 1
  | (_, d) => uptoBulk d + 1
 end
def uptoSmall : (H : Type) → List (DataW H) → Bool := fun _ ds => decide (uptoBulkAll ds ≤ 1048576)
def OpenSpec.upto (s : _root_.Go.ChangeSpec) : _root_.Go.OpenSpec := { _root_.Go.OpenSpec.ofChange s with cond := some uptoSmall }

/-- 'laws.FnJams', WHERE WHAT IT READS IS OF BULK AT MOST 1048576: true; the input reads as it did. -/
def fnJamsUptoRow : OpenClaim := { program := "ytndodlfmjdgpcaa", sum := "a6fcea9a965fc94e5b68ab466b21a63c582262cb597e5a9f3189cea56f4115aa", func := "loop.example/g01045/laws.FnJams", spec := "fnJams", unfollowed := true, recurses := true, plainKeys := false, apart := false, narrowed := true }
def FnJamsUptoSaid : Prop := fnJamsUptoRow.holds Try.pinned (OpenSpec.upto fnJamsSpec)

/-- 'laws.FnDeadKeys', WHERE WHAT IT READS IS OF BULK AT MOST 1048576: true; the input reads as it did. -/
def fnDeadKeysUptoRow : OpenClaim := { program := "ytndodlfmjdgpcaa", sum := "a6fcea9a965fc94e5b68ab466b21a63c582262cb597e5a9f3189cea56f4115aa", func := "loop.example/g01045/laws.FnDeadKeys", spec := "fnDeadKeys", inPlace := ["internal/abi.NoEscape"], plainKeys := false, apart := false, narrowed := true }
def FnDeadKeysUptoSaid : Prop := fnDeadKeysUptoRow.holds Try.pinned (OpenSpec.upto fnDeadKeysSpec)

/-- 'laws.FnExactSplitWords', WHERE WHAT IT READS IS OF BULK AT MOST 1048576: true; the input reads as it did. -/
def fnExactSplitWordsUptoRow : OpenClaim := { program := "ytndodlfmjdgpcaa", sum := "a6fcea9a965fc94e5b68ab466b21a63c582262cb597e5a9f3189cea56f4115aa", func := "loop.example/g01045/laws.FnExactSplitWords", spec := "fnExactSplitWords", unfollowed := true, recurses := true, plainKeys := false, apart := false, narrowed := true }
def FnExactSplitWordsUptoSaid : Prop := fnExactSplitWordsUptoRow.holds Try.pinned (OpenSpec.upto fnExactSplitWordsSpec)

/-- 'laws.FnExactPressesFor', WHERE WHAT IT READS IS OF BULK AT MOST 1048576: true; the input reads as it did. -/
def fnExactPressesForUptoRow : OpenClaim := { program := "ytndodlfmjdgpcaa", sum := "a6fcea9a965fc94e5b68ab466b21a63c582262cb597e5a9f3189cea56f4115aa", func := "loop.example/g01045/laws.FnExactPressesFor", spec := "fnExactPressesFor", plainKeys := false, apart := false, narrowed := true }
def FnExactPressesForUptoSaid : Prop := fnExactPressesForUptoRow.holds Try.pinned (OpenSpec.upto fnExactPressesForSpec)

/-- 'laws.FnExactTextOfPresses', WHERE WHAT IT READS IS OF BULK AT MOST 1048576: true; the input reads as it did. -/
def fnExactTextOfPressesUptoRow : OpenClaim := { program := "ytndodlfmjdgpcaa", sum := "a6fcea9a965fc94e5b68ab466b21a63c582262cb597e5a9f3189cea56f4115aa", func := "loop.example/g01045/laws.FnExactTextOfPresses", spec := "fnExactTextOfPresses", inPlace := ["internal/abi.NoEscape"], plainKeys := false, apart := false, narrowed := true }
def FnExactTextOfPressesUptoSaid : Prop := fnExactTextOfPressesUptoRow.holds Try.pinned (OpenSpec.upto fnExactTextOfPressesSpec)

/-- 'laws.FnExactMissingLetters', WHERE WHAT IT READS IS OF BULK AT MOST 1048576: true; the input reads as it did. -/
def fnExactMissingLettersUptoRow : OpenClaim := { program := "ytndodlfmjdgpcaa", sum := "a6fcea9a965fc94e5b68ab466b21a63c582262cb597e5a9f3189cea56f4115aa", func := "loop.example/g01045/laws.FnExactMissingLetters", spec := "fnExactMissingLetters", inPlace := ["internal/bytealg.IndexByteString", "internal/bytealg.IndexString", "internal/abi.NoEscape"], unfollowed := true, recurses := true, named := ["internal/bytealg.MaxLen"], plainKeys := false, apart := false, narrowed := true }
def FnExactMissingLettersUptoSaid : Prop := fnExactMissingLettersUptoRow.holds Try.pinned (OpenSpec.upto fnExactMissingLettersSpec)

/-- 'laws.FnExactLettersOf', WHERE WHAT IT READS IS OF BULK AT MOST 1048576: true; the input reads as it did. -/
def fnExactLettersOfUptoRow : OpenClaim := { program := "ytndodlfmjdgpcaa", sum := "a6fcea9a965fc94e5b68ab466b21a63c582262cb597e5a9f3189cea56f4115aa", func := "loop.example/g01045/laws.FnExactLettersOf", spec := "fnExactLettersOf", inPlace := ["internal/abi.NoEscape"], unfollowed := true, recurses := true, plainKeys := false, apart := false, narrowed := true }
def FnExactLettersOfUptoSaid : Prop := fnExactLettersOfUptoRow.holds Try.pinned (OpenSpec.upto fnExactLettersOfSpec)

end Rows
end Go.Proofs.Ytndodlfmjdgpcaa
