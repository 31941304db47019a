/-
  No cell of these rows narrows 'for every input' (looked for: loops, veiled, ifaces, maps, wideKeys, modest, calm, conditions, laid).
  DERIVED. THE GIVEN ROWS OF THIS SEAT. 12 by the template 'for every input the law returns true; each argument reads behind the call as it read before'; 0 by the template 'total and deterministic' (their statements: YtkdpileflddohaaTotals.lean).
  GIVEN WITH THE SEED: the statements are not yours to turn. If you find one false, say at which input.
  Laid BY PROGRAM, IN A SANDBOX (cutbox-rows.mjs): the forced cells as the released guide's own fill.sh prints them over the translation 9d090418be0a96b1… (all of the seat's roots in one cut). By AI agents, Wed Nov 11 2026. No macro, syntax, notation, axiom, sorry.
-/
import Derived.Test.YtkdpileflddohaaChecked
import GoSem.Claim
import GoSem.ClaimJoined
import GoSem.ClaimMapViews
import Derived.JoinedTies
import Derived.KernelRfl
namespace Go.Proofs.Ytkdpileflddohaa
/- THE CELL 'sum', in the pinned program and in every row, IS THE sha256 OF THE DUMP (.gsa) THAT YtkdpileflddohaaProg.lean LOADS. Nothing in Lean hashes anything: it is a label: what it is worth is what the hold of that sum in a sandbox is worth. -/
noncomputable def Try.pinned : Pinned := { name := "ytkdpileflddohaa", sum := "9d090418be0a96b13f29280010d8dbdbb7b8d822b2239c67e8d996b0a87481e5", checked := Try.checked }
namespace Rows
def none {H : Type} : Left H := { results := [], args := [] }

/-- 'laws.FnDeadKeys': WHATEVER THE INPUT: true; the input reads as it did. -/
def fnDeadKeysSpec : ChangeSpec := { name := "fnDeadKeys", fn := fun _ => fun
  | [d] => { results := [.lit (.bool true)], args := [d] }
  | _ => none }
def fnDeadKeysRow : OpenClaim := { program := "ytkdpileflddohaa", sum := "9d090418be0a96b13f29280010d8dbdbb7b8d822b2239c67e8d996b0a87481e5", func := "loop.example/g01045/laws.FnDeadKeys", spec := "fnDeadKeys", inPlace := ["internal/abi.NoEscape"], plainKeys := false, apart := false }
def FnDeadKeysSaid : Prop := fnDeadKeysRow.holds Try.pinned (OpenSpec.ofChange fnDeadKeysSpec)

/-- ITS FALSE NEIGHBOUR: 'it returns false'. Refute it at one input. -/
def fnDeadKeysWrong : ChangeSpec := { name := "fnDeadKeys", fn := fun _ => fun
  | [d] => { results := [.lit (.bool false)], args := [d] }
  | _ => none }
def FnDeadKeysWrongFalsely : Prop := fnDeadKeysRow.holds Try.pinned (OpenSpec.ofChange fnDeadKeysWrong)

/-- 'laws.FnExactCodeName': WHATEVER THE INPUT: true; the input reads as it did. -/
def fnExactCodeNameSpec : ChangeSpec := { name := "fnExactCodeName", fn := fun _ => fun
  | [d] => { results := [.lit (.bool true)], args := [d] }
  | _ => none }
def fnExactCodeNameRow : OpenClaim := { program := "ytkdpileflddohaa", sum := "9d090418be0a96b13f29280010d8dbdbb7b8d822b2239c67e8d996b0a87481e5", func := "loop.example/g01045/laws.FnExactCodeName", spec := "fnExactCodeName", plainKeys := false, apart := false }
def FnExactCodeNameSaid : Prop := fnExactCodeNameRow.holds Try.pinned (OpenSpec.ofChange fnExactCodeNameSpec)

/-- ITS FALSE NEIGHBOUR: 'it returns false'. Refute it at one input. -/
def fnExactCodeNameWrong : ChangeSpec := { name := "fnExactCodeName", fn := fun _ => fun
  | [d] => { results := [.lit (.bool false)], args := [d] }
  | _ => none }
def FnExactCodeNameWrongFalsely : Prop := fnExactCodeNameRow.holds Try.pinned (OpenSpec.ofChange fnExactCodeNameWrong)

/-- 'laws.FnExactIsName': WHATEVER THE INPUT: true; the input reads as it did. -/
def fnExactIsNameSpec : ChangeSpec := { name := "fnExactIsName", fn := fun _ => fun
  | [d] => { results := [.lit (.bool true)], args := [d] }
  | _ => none }
def fnExactIsNameRow : OpenClaim := { program := "ytkdpileflddohaa", sum := "9d090418be0a96b13f29280010d8dbdbb7b8d822b2239c67e8d996b0a87481e5", func := "loop.example/g01045/laws.FnExactIsName", spec := "fnExactIsName", plainKeys := false, apart := false }
def FnExactIsNameSaid : Prop := fnExactIsNameRow.holds Try.pinned (OpenSpec.ofChange fnExactIsNameSpec)

/-- ITS FALSE NEIGHBOUR: 'it returns false'. Refute it at one input. -/
def fnExactIsNameWrong : ChangeSpec := { name := "fnExactIsName", fn := fun _ => fun
  | [d] => { results := [.lit (.bool false)], args := [d] }
  | _ => none }
def FnExactIsNameWrongFalsely : Prop := fnExactIsNameRow.holds Try.pinned (OpenSpec.ofChange fnExactIsNameWrong)

/-- 'laws.FnExactSplitWords': WHATEVER THE INPUT: true; the input reads as it did. -/
def fnExactSplitWordsSpec : ChangeSpec := { name := "fnExactSplitWords", fn := fun _ => fun
  | [d] => { results := [.lit (.bool true)], args := [d] }
  | _ => none }
def fnExactSplitWordsRow : OpenClaim := { program := "ytkdpileflddohaa", sum := "9d090418be0a96b13f29280010d8dbdbb7b8d822b2239c67e8d996b0a87481e5", func := "loop.example/g01045/laws.FnExactSplitWords", spec := "fnExactSplitWords", unfollowed := true, recurses := true, plainKeys := false, apart := false }
def FnExactSplitWordsSaid : Prop := fnExactSplitWordsRow.holds Try.pinned (OpenSpec.ofChange fnExactSplitWordsSpec)

/-- ITS FALSE NEIGHBOUR: 'it returns false'. Refute it at one input. -/
def fnExactSplitWordsWrong : ChangeSpec := { name := "fnExactSplitWords", fn := fun _ => fun
  | [d] => { results := [.lit (.bool false)], args := [d] }
  | _ => none }
def FnExactSplitWordsWrongFalsely : Prop := fnExactSplitWordsRow.holds Try.pinned (OpenSpec.ofChange fnExactSplitWordsWrong)

/-- 'laws.FnExactValidKeys': WHATEVER THE INPUT: true; the input reads as it did. -/
def fnExactValidKeysSpec : ChangeSpec := { name := "fnExactValidKeys", fn := fun _ => fun
  | [d1, d2] => { results := [.lit (.bool true)], args := [d1, d2] }
  | _ => none }
def fnExactValidKeysRow : OpenClaim := { program := "ytkdpileflddohaa", sum := "9d090418be0a96b13f29280010d8dbdbb7b8d822b2239c67e8d996b0a87481e5", func := "loop.example/g01045/laws.FnExactValidKeys", spec := "fnExactValidKeys", plainKeys := false, apart := false }
def FnExactValidKeysSaid : Prop := fnExactValidKeysRow.holds Try.pinned (OpenSpec.ofChange fnExactValidKeysSpec)

/-- ITS FALSE NEIGHBOUR: 'it returns false'. Refute it at one input. -/
def fnExactValidKeysWrong : ChangeSpec := { name := "fnExactValidKeys", fn := fun _ => fun
  | [d1, d2] => { results := [.lit (.bool false)], args := [d1, d2] }
  | _ => none }
def FnExactValidKeysWrongFalsely : Prop := fnExactValidKeysRow.holds Try.pinned (OpenSpec.ofChange fnExactValidKeysWrong)

/-- 'laws.FnExactSamePresses': WHATEVER THE INPUT: true; the input reads as it did. -/
def fnExactSamePressesSpec : ChangeSpec := { name := "fnExactSamePresses", fn := fun _ => fun
  | [d1, d2] => { results := [.lit (.bool true)], args := [d1, d2] }
  | _ => none }
def fnExactSamePressesRow : OpenClaim := { program := "ytkdpileflddohaa", sum := "9d090418be0a96b13f29280010d8dbdbb7b8d822b2239c67e8d996b0a87481e5", func := "loop.example/g01045/laws.FnExactSamePresses", spec := "fnExactSamePresses", plainKeys := false, apart := false }
def FnExactSamePressesSaid : Prop := fnExactSamePressesRow.holds Try.pinned (OpenSpec.ofChange fnExactSamePressesSpec)

/-- ITS FALSE NEIGHBOUR: 'it returns false'. Refute it at one input. -/
def fnExactSamePressesWrong : ChangeSpec := { name := "fnExactSamePresses", fn := fun _ => fun
  | [d1, d2] => { results := [.lit (.bool false)], args := [d1, d2] }
  | _ => none }
def FnExactSamePressesWrongFalsely : Prop := fnExactSamePressesRow.holds Try.pinned (OpenSpec.ofChange fnExactSamePressesWrong)

/-- 'laws.FnExactPressFor': WHATEVER THE INPUT: true; the input reads as it did. -/
def fnExactPressForSpec : ChangeSpec := { name := "fnExactPressFor", fn := fun _ => fun
  | [d1, d2] => { results := [.lit (.bool true)], args := [d1, d2] }
  | _ => none }
def fnExactPressForRow : OpenClaim := { program := "ytkdpileflddohaa", sum := "9d090418be0a96b13f29280010d8dbdbb7b8d822b2239c67e8d996b0a87481e5", func := "loop.example/g01045/laws.FnExactPressFor", spec := "fnExactPressFor", plainKeys := false, apart := false }
def FnExactPressForSaid : Prop := fnExactPressForRow.holds Try.pinned (OpenSpec.ofChange fnExactPressForSpec)

/-- ITS FALSE NEIGHBOUR: 'it returns false'. Refute it at one input. -/
def fnExactPressForWrong : ChangeSpec := { name := "fnExactPressFor", fn := fun _ => fun
  | [d1, d2] => { results := [.lit (.bool false)], args := [d1, d2] }
  | _ => none }
def FnExactPressForWrongFalsely : Prop := fnExactPressForRow.holds Try.pinned (OpenSpec.ofChange fnExactPressForWrong)

/-- 'laws.FnExactPressesFor': WHATEVER THE INPUT: true; the input reads as it did. -/
def fnExactPressesForSpec : ChangeSpec := { name := "fnExactPressesFor", fn := fun _ => fun
  | [d1, d2, d3] => { results := [.lit (.bool true)], args := [d1, d2, d3] }
  | _ => none }
def fnExactPressesForRow : OpenClaim := { program := "ytkdpileflddohaa", sum := "9d090418be0a96b13f29280010d8dbdbb7b8d822b2239c67e8d996b0a87481e5", func := "loop.example/g01045/laws.FnExactPressesFor", spec := "fnExactPressesFor", plainKeys := false, apart := false }
def FnExactPressesForSaid : Prop := fnExactPressesForRow.holds Try.pinned (OpenSpec.ofChange fnExactPressesForSpec)

/-- ITS FALSE NEIGHBOUR: 'it returns false'. Refute it at one input. -/
def fnExactPressesForWrong : ChangeSpec := { name := "fnExactPressesFor", fn := fun _ => fun
  | [d1, d2, d3] => { results := [.lit (.bool false)], args := [d1, d2, d3] }
  | _ => none }
def FnExactPressesForWrongFalsely : Prop := fnExactPressesForRow.holds Try.pinned (OpenSpec.ofChange fnExactPressesForWrong)

/-- 'laws.FnExactTextOfPresses': WHATEVER THE INPUT: true; the input reads as it did. -/
def fnExactTextOfPressesSpec : ChangeSpec := { name := "fnExactTextOfPresses", fn := fun _ => fun
  | [d1, d2, d3] => { results := [.lit (.bool true)], args := [d1, d2, d3] }
  | _ => none }
def fnExactTextOfPressesRow : OpenClaim := { program := "ytkdpileflddohaa", sum := "9d090418be0a96b13f29280010d8dbdbb7b8d822b2239c67e8d996b0a87481e5", func := "loop.example/g01045/laws.FnExactTextOfPresses", spec := "fnExactTextOfPresses", inPlace := ["internal/abi.NoEscape"], plainKeys := false, apart := false }
def FnExactTextOfPressesSaid : Prop := fnExactTextOfPressesRow.holds Try.pinned (OpenSpec.ofChange fnExactTextOfPressesSpec)

/-- ITS FALSE NEIGHBOUR: 'it returns false'. Refute it at one input. -/
def fnExactTextOfPressesWrong : ChangeSpec := { name := "fnExactTextOfPresses", fn := fun _ => fun
  | [d1, d2, d3] => { results := [.lit (.bool false)], args := [d1, d2, d3] }
  | _ => none }
def FnExactTextOfPressesWrongFalsely : Prop := fnExactTextOfPressesRow.holds Try.pinned (OpenSpec.ofChange fnExactTextOfPressesWrong)

/-- 'laws.FnExactShiftsOf': WHATEVER THE INPUT: true; the input reads as it did. -/
def fnExactShiftsOfSpec : ChangeSpec := { name := "fnExactShiftsOf", fn := fun _ => fun
  | [d] => { results := [.lit (.bool true)], args := [d] }
  | _ => none }
def fnExactShiftsOfRow : OpenClaim := { program := "ytkdpileflddohaa", sum := "9d090418be0a96b13f29280010d8dbdbb7b8d822b2239c67e8d996b0a87481e5", func := "loop.example/g01045/laws.FnExactShiftsOf", spec := "fnExactShiftsOf", plainKeys := false, apart := false }
def FnExactShiftsOfSaid : Prop := fnExactShiftsOfRow.holds Try.pinned (OpenSpec.ofChange fnExactShiftsOfSpec)

/-- ITS FALSE NEIGHBOUR: 'it returns false'. Refute it at one input. -/
def fnExactShiftsOfWrong : ChangeSpec := { name := "fnExactShiftsOf", fn := fun _ => fun
  | [d] => { results := [.lit (.bool false)], args := [d] }
  | _ => none }
def FnExactShiftsOfWrongFalsely : Prop := fnExactShiftsOfRow.holds Try.pinned (OpenSpec.ofChange fnExactShiftsOfWrong)

/-- 'laws.FnExactMissingLetters': WHATEVER THE INPUT: true; the input reads as it did. -/
def fnExactMissingLettersSpec : ChangeSpec := { name := "fnExactMissingLetters", fn := fun _ => fun
  | [d1, d2, d3] => { results := [.lit (.bool true)], args := [d1, d2, d3] }
  | _ => none }
def fnExactMissingLettersRow : OpenClaim := { program := "ytkdpileflddohaa", sum := "9d090418be0a96b13f29280010d8dbdbb7b8d822b2239c67e8d996b0a87481e5", func := "loop.example/g01045/laws.FnExactMissingLetters", spec := "fnExactMissingLetters", inPlace := ["internal/bytealg.IndexByteString", "internal/bytealg.IndexString", "internal/abi.NoEscape"], unfollowed := true, recurses := true, named := ["internal/bytealg.MaxLen"], plainKeys := false, apart := false }
def FnExactMissingLettersSaid : Prop := fnExactMissingLettersRow.holds Try.pinned (OpenSpec.ofChange fnExactMissingLettersSpec)

/-- ITS FALSE NEIGHBOUR: 'it returns false'. Refute it at one input. -/
def fnExactMissingLettersWrong : ChangeSpec := { name := "fnExactMissingLetters", fn := fun _ => fun
  | [d1, d2, d3] => { results := [.lit (.bool false)], args := [d1, d2, d3] }
  | _ => none }
def FnExactMissingLettersWrongFalsely : Prop := fnExactMissingLettersRow.holds Try.pinned (OpenSpec.ofChange fnExactMissingLettersWrong)

/-- 'laws.FnExactLettersOf': WHATEVER THE INPUT: true; the input reads as it did. -/
def fnExactLettersOfSpec : ChangeSpec := { name := "fnExactLettersOf", fn := fun _ => fun
  | [d1, d2] => { results := [.lit (.bool true)], args := [d1, d2] }
  | _ => none }
def fnExactLettersOfRow : OpenClaim := { program := "ytkdpileflddohaa", sum := "9d090418be0a96b13f29280010d8dbdbb7b8d822b2239c67e8d996b0a87481e5", func := "loop.example/g01045/laws.FnExactLettersOf", spec := "fnExactLettersOf", inPlace := ["internal/abi.NoEscape"], unfollowed := true, recurses := true, plainKeys := false, apart := false }
def FnExactLettersOfSaid : Prop := fnExactLettersOfRow.holds Try.pinned (OpenSpec.ofChange fnExactLettersOfSpec)

/-- ITS FALSE NEIGHBOUR: 'it returns false'. Refute it at one input. -/
def fnExactLettersOfWrong : ChangeSpec := { name := "fnExactLettersOf", fn := fun _ => fun
  | [d1, d2] => { results := [.lit (.bool false)], args := [d1, d2] }
  | _ => none }
def FnExactLettersOfWrongFalsely : Prop := fnExactLettersOfRow.holds Try.pinned (OpenSpec.ofChange fnExactLettersOfWrong)

/- THE SECOND FORM. 'bulk': how many values and letters a reading holds, each counted each time it is reached (what is shared counts as often as it is met; a slice's spare places count too). A statement '..UptoSaid' is the law's where the arguments, and the package variables that the reading takes, are together of bulk at most 1048576: NARROWER than '..Said'. Prove '..Said' where nothing that the law and all that it calls make is longer than what came in: it says more and counts as full. Else prove '..UptoSaid'. A law counts once. -/
mutual
def uptoBulk {H : Type} : DataW H → Nat
  | .lit (.string bytes) => bytes.length + 1
  | .lit _ => 1
  | .nil => 1
  | .ptr d => uptoBulk d + 1
  | .slice elems spare => uptoBulkAll elems + uptoBulkAll spare + 1
  | .agg parts => uptoBulkAll parts + 1
  | .iface _ d => uptoBulk d + 1
  | .map entries => uptoBulkEntries entries + 1
  | .held _ => 1
def uptoBulkAll {H : Type} : List (DataW H) → Nat
  | [] => 0
  | d :: r => uptoBulk d + uptoBulkAll r
def uptoBulkEntries {H : Type} : List (Lit × DataW H) → Nat
  | [] => 0
  | x :: r => uptoBulkEntry x + uptoBulkEntries r
def uptoBulkEntry {H : Type} : Lit × DataW H → Nat
  | (.string bytes, d) => bytes.length + uptoBulk d + 1
  | (_, d) => uptoBulk d + 1
 end
def uptoSmall : (H : Type) → List (DataW H) → Bool := fun _ ds => decide (uptoBulkAll ds ≤ 1048576)
def OpenSpec.upto (s : _root_.Go.ChangeSpec) : _root_.Go.OpenSpec := { _root_.Go.OpenSpec.ofChange s with cond := some uptoSmall }

/-- 'laws.FnDeadKeys', WHERE WHAT IT READS IS OF BULK AT MOST 1048576: true; the input reads as it did. -/
def fnDeadKeysUptoRow : OpenClaim := { program := "ytkdpileflddohaa", sum := "9d090418be0a96b13f29280010d8dbdbb7b8d822b2239c67e8d996b0a87481e5", func := "loop.example/g01045/laws.FnDeadKeys", spec := "fnDeadKeys", inPlace := ["internal/abi.NoEscape"], plainKeys := false, apart := false, narrowed := true }
def FnDeadKeysUptoSaid : Prop := fnDeadKeysUptoRow.holds Try.pinned (OpenSpec.upto fnDeadKeysSpec)

/-- 'laws.FnExactCodeName', WHERE WHAT IT READS IS OF BULK AT MOST 1048576: true; the input reads as it did. -/
def fnExactCodeNameUptoRow : OpenClaim := { program := "ytkdpileflddohaa", sum := "9d090418be0a96b13f29280010d8dbdbb7b8d822b2239c67e8d996b0a87481e5", func := "loop.example/g01045/laws.FnExactCodeName", spec := "fnExactCodeName", plainKeys := false, apart := false, narrowed := true }
def FnExactCodeNameUptoSaid : Prop := fnExactCodeNameUptoRow.holds Try.pinned (OpenSpec.upto fnExactCodeNameSpec)

/-- 'laws.FnExactIsName', WHERE WHAT IT READS IS OF BULK AT MOST 1048576: true; the input reads as it did. -/
def fnExactIsNameUptoRow : OpenClaim := { program := "ytkdpileflddohaa", sum := "9d090418be0a96b13f29280010d8dbdbb7b8d822b2239c67e8d996b0a87481e5", func := "loop.example/g01045/laws.FnExactIsName", spec := "fnExactIsName", plainKeys := false, apart := false, narrowed := true }
def FnExactIsNameUptoSaid : Prop := fnExactIsNameUptoRow.holds Try.pinned (OpenSpec.upto fnExactIsNameSpec)

/-- 'laws.FnExactSplitWords', WHERE WHAT IT READS IS OF BULK AT MOST 1048576: true; the input reads as it did. -/
def fnExactSplitWordsUptoRow : OpenClaim := { program := "ytkdpileflddohaa", sum := "9d090418be0a96b13f29280010d8dbdbb7b8d822b2239c67e8d996b0a87481e5", func := "loop.example/g01045/laws.FnExactSplitWords", spec := "fnExactSplitWords", unfollowed := true, recurses := true, plainKeys := false, apart := false, narrowed := true }
def FnExactSplitWordsUptoSaid : Prop := fnExactSplitWordsUptoRow.holds Try.pinned (OpenSpec.upto fnExactSplitWordsSpec)

/-- 'laws.FnExactValidKeys', WHERE WHAT IT READS IS OF BULK AT MOST 1048576: true; the input reads as it did. -/
def fnExactValidKeysUptoRow : OpenClaim := { program := "ytkdpileflddohaa", sum := "9d090418be0a96b13f29280010d8dbdbb7b8d822b2239c67e8d996b0a87481e5", func := "loop.example/g01045/laws.FnExactValidKeys", spec := "fnExactValidKeys", plainKeys := false, apart := false, narrowed := true }
def FnExactValidKeysUptoSaid : Prop := fnExactValidKeysUptoRow.holds Try.pinned (OpenSpec.upto fnExactValidKeysSpec)

/-- 'laws.FnExactSamePresses', WHERE WHAT IT READS IS OF BULK AT MOST 1048576: true; the input reads as it did. -/
def fnExactSamePressesUptoRow : OpenClaim := { program := "ytkdpileflddohaa", sum := "9d090418be0a96b13f29280010d8dbdbb7b8d822b2239c67e8d996b0a87481e5", func := "loop.example/g01045/laws.FnExactSamePresses", spec := "fnExactSamePresses", plainKeys := false, apart := false, narrowed := true }
def FnExactSamePressesUptoSaid : Prop := fnExactSamePressesUptoRow.holds Try.pinned (OpenSpec.upto fnExactSamePressesSpec)

/-- 'laws.FnExactPressFor', WHERE WHAT IT READS IS OF BULK AT MOST 1048576: true; the input reads as it did. -/
def fnExactPressForUptoRow : OpenClaim := { program := "ytkdpileflddohaa", sum := "9d090418be0a96b13f29280010d8dbdbb7b8d822b2239c67e8d996b0a87481e5", func := "loop.example/g01045/laws.FnExactPressFor", spec := "fnExactPressFor", plainKeys := false, apart := false, narrowed := true }
def FnExactPressForUptoSaid : Prop := fnExactPressForUptoRow.holds Try.pinned (OpenSpec.upto fnExactPressForSpec)

/-- 'laws.FnExactPressesFor', WHERE WHAT IT READS IS OF BULK AT MOST 1048576: true; the input reads as it did. -/
def fnExactPressesForUptoRow : OpenClaim := { program := "ytkdpileflddohaa", sum := "9d090418be0a96b13f29280010d8dbdbb7b8d822b2239c67e8d996b0a87481e5", func := "loop.example/g01045/laws.FnExactPressesFor", spec := "fnExactPressesFor", plainKeys := false, apart := false, narrowed := true }
def FnExactPressesForUptoSaid : Prop := fnExactPressesForUptoRow.holds Try.pinned (OpenSpec.upto fnExactPressesForSpec)

/-- 'laws.FnExactTextOfPresses', WHERE WHAT IT READS IS OF BULK AT MOST 1048576: true; the input reads as it did. -/
def fnExactTextOfPressesUptoRow : OpenClaim := { program := "ytkdpileflddohaa", sum := "9d090418be0a96b13f29280010d8dbdbb7b8d822b2239c67e8d996b0a87481e5", func := "loop.example/g01045/laws.FnExactTextOfPresses", spec := "fnExactTextOfPresses", inPlace := ["internal/abi.NoEscape"], plainKeys := false, apart := false, narrowed := true }
def FnExactTextOfPressesUptoSaid : Prop := fnExactTextOfPressesUptoRow.holds Try.pinned (OpenSpec.upto fnExactTextOfPressesSpec)

/-- 'laws.FnExactShiftsOf', WHERE WHAT IT READS IS OF BULK AT MOST 1048576: true; the input reads as it did. -/
def fnExactShiftsOfUptoRow : OpenClaim := { program := "ytkdpileflddohaa", sum := "9d090418be0a96b13f29280010d8dbdbb7b8d822b2239c67e8d996b0a87481e5", func := "loop.example/g01045/laws.FnExactShiftsOf", spec := "fnExactShiftsOf", plainKeys := false, apart := false, narrowed := true }
def FnExactShiftsOfUptoSaid : Prop := fnExactShiftsOfUptoRow.holds Try.pinned (OpenSpec.upto fnExactShiftsOfSpec)

/-- 'laws.FnExactMissingLetters', WHERE WHAT IT READS IS OF BULK AT MOST 1048576: true; the input reads as it did. -/
def fnExactMissingLettersUptoRow : OpenClaim := { program := "ytkdpileflddohaa", sum := "9d090418be0a96b13f29280010d8dbdbb7b8d822b2239c67e8d996b0a87481e5", func := "loop.example/g01045/laws.FnExactMissingLetters", spec := "fnExactMissingLetters", inPlace := ["internal/bytealg.IndexByteString", "internal/bytealg.IndexString", "internal/abi.NoEscape"], unfollowed := true, recurses := true, named := ["internal/bytealg.MaxLen"], plainKeys := false, apart := false, narrowed := true }
def FnExactMissingLettersUptoSaid : Prop := fnExactMissingLettersUptoRow.holds Try.pinned (OpenSpec.upto fnExactMissingLettersSpec)

/-- 'laws.FnExactLettersOf', WHERE WHAT IT READS IS OF BULK AT MOST 1048576: true; the input reads as it did. -/
def fnExactLettersOfUptoRow : OpenClaim := { program := "ytkdpileflddohaa", sum := "9d090418be0a96b13f29280010d8dbdbb7b8d822b2239c67e8d996b0a87481e5", func := "loop.example/g01045/laws.FnExactLettersOf", spec := "fnExactLettersOf", inPlace := ["internal/abi.NoEscape"], unfollowed := true, recurses := true, plainKeys := false, apart := false, narrowed := true }
def FnExactLettersOfUptoSaid : Prop := fnExactLettersOfUptoRow.holds Try.pinned (OpenSpec.upto fnExactLettersOfSpec)

end Rows
end Go.Proofs.Ytkdpileflddohaa
