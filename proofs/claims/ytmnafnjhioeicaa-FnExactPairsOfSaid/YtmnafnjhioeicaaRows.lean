/-
  No cell of these rows narrows 'for every input' (looked for: loops, veiled, ifaces, maps, wideKeys, modest, calm, conditions, laid).
  DERIVED. THE GIVEN ROWS OF THIS SEAT. 8 by the template 'for every input the law returns true; each argument reads behind the call as it read before'; 0 by the template 'total and deterministic' (their statements: YtmnafnjhioeicaaTotals.lean).
  GIVEN WITH THE SEED: the statements are not yours to turn. If you find one false, say at which input.
  Laid BY PROGRAM, IN A SANDBOX (cutbox-rows.mjs): the forced cells as the released guide's own fill.sh prints them over the translation 6d14b5d37c66a3e8… (all of the seat's roots in one cut). By AI agents, Wed Nov 11 2026. No macro, syntax, notation, axiom, sorry.
-/
import Derived.Test.YtmnafnjhioeicaaChecked
import GoSem.Claim
import GoSem.ClaimJoined
import GoSem.ClaimMapViews
import Derived.JoinedTies
import Derived.KernelRfl
namespace Go.Proofs.Ytmnafnjhioeicaa
/- THE CELL 'sum', in the pinned program and in every row, IS THE sha256 OF THE DUMP (.gsa) THAT YtmnafnjhioeicaaProg.lean LOADS. Nothing in Lean hashes anything: it is a label: what it is worth is what the hold of that sum in a sandbox is worth. -/
noncomputable def Try.pinned : Pinned := { name := "ytmnafnjhioeicaa", sum := "6d14b5d37c66a3e83677f42f7a646abf27a4a8f194ca22f3f9322c541468b1c0", checked := Try.checked }
namespace Rows
def none {H : Type} : Left H := { results := [], args := [] }

/-- 'laws.FnExactValidBoard': WHATEVER THE INPUT: true; the input reads as it did. -/
def fnExactValidBoardSpec : ChangeSpec := { name := "fnExactValidBoard", fn := fun _ => fun
  | [d] => { results := [.lit (.bool true)], args := [d] }
  | _ => none }
def fnExactValidBoardRow : OpenClaim := { program := "ytmnafnjhioeicaa", sum := "6d14b5d37c66a3e83677f42f7a646abf27a4a8f194ca22f3f9322c541468b1c0", func := "loop.example/g01045/laws.FnExactValidBoard", spec := "fnExactValidBoard", unfollowed := true, recurses := true, apart := false }
def FnExactValidBoardSaid : Prop := fnExactValidBoardRow.holds Try.pinned (OpenSpec.ofChange fnExactValidBoardSpec)

/-- ITS FALSE NEIGHBOUR: 'it returns false'. Refute it at one input. -/
def fnExactValidBoardWrong : ChangeSpec := { name := "fnExactValidBoard", fn := fun _ => fun
  | [d] => { results := [.lit (.bool false)], args := [d] }
  | _ => none }
def FnExactValidBoardWrongFalsely : Prop := fnExactValidBoardRow.holds Try.pinned (OpenSpec.ofChange fnExactValidBoardWrong)

/-- 'laws.FnExactStrokeCost': WHATEVER THE INPUT: true; the input reads as it did. -/
def fnExactStrokeCostSpec : ChangeSpec := { name := "fnExactStrokeCost", fn := fun _ => fun
  | [d1, d2, d3] => { results := [.lit (.bool true)], args := [d1, d2, d3] }
  | _ => none }
def fnExactStrokeCostRow : OpenClaim := { program := "ytmnafnjhioeicaa", sum := "6d14b5d37c66a3e83677f42f7a646abf27a4a8f194ca22f3f9322c541468b1c0", func := "loop.example/g01045/laws.FnExactStrokeCost", spec := "fnExactStrokeCost", unfollowed := true, recurses := true, apart := false }
def FnExactStrokeCostSaid : Prop := fnExactStrokeCostRow.holds Try.pinned (OpenSpec.ofChange fnExactStrokeCostSpec)

/-- ITS FALSE NEIGHBOUR: 'it returns false'. Refute it at one input. -/
def fnExactStrokeCostWrong : ChangeSpec := { name := "fnExactStrokeCost", fn := fun _ => fun
  | [d1, d2, d3] => { results := [.lit (.bool false)], args := [d1, d2, d3] }
  | _ => none }
def FnExactStrokeCostWrongFalsely : Prop := fnExactStrokeCostRow.holds Try.pinned (OpenSpec.ofChange fnExactStrokeCostWrong)

/-- 'laws.FnExactTextCost': WHATEVER THE INPUT: true; the input reads as it did. -/
def fnExactTextCostSpec : ChangeSpec := { name := "fnExactTextCost", fn := fun _ => fun
  | [d1, d2, d3] => { results := [.lit (.bool true)], args := [d1, d2, d3] }
  | _ => none }
def fnExactTextCostRow : OpenClaim := { program := "ytmnafnjhioeicaa", sum := "6d14b5d37c66a3e83677f42f7a646abf27a4a8f194ca22f3f9322c541468b1c0", func := "loop.example/g01045/laws.FnExactTextCost", spec := "fnExactTextCost", inPlace := ["internal/bytealg.IndexByteString"], unfollowed := true, recurses := true, apart := false }
def FnExactTextCostSaid : Prop := fnExactTextCostRow.holds Try.pinned (OpenSpec.ofChange fnExactTextCostSpec)

/-- ITS FALSE NEIGHBOUR: 'it returns false'. Refute it at one input. -/
def fnExactTextCostWrong : ChangeSpec := { name := "fnExactTextCost", fn := fun _ => fun
  | [d1, d2, d3] => { results := [.lit (.bool false)], args := [d1, d2, d3] }
  | _ => none }
def FnExactTextCostWrongFalsely : Prop := fnExactTextCostRow.holds Try.pinned (OpenSpec.ofChange fnExactTextCostWrong)

/-- 'laws.FnExactHandsOf': WHATEVER THE INPUT: true; the input reads as it did. -/
def fnExactHandsOfSpec : ChangeSpec := { name := "fnExactHandsOf", fn := fun _ => fun
  | [d1, d2, d3] => { results := [.lit (.bool true)], args := [d1, d2, d3] }
  | _ => none }
def fnExactHandsOfRow : OpenClaim := { program := "ytmnafnjhioeicaa", sum := "6d14b5d37c66a3e83677f42f7a646abf27a4a8f194ca22f3f9322c541468b1c0", func := "loop.example/g01045/laws.FnExactHandsOf", spec := "fnExactHandsOf", inPlace := ["internal/bytealg.IndexByteString"], unfollowed := true, recurses := true, apart := false }
def FnExactHandsOfSaid : Prop := fnExactHandsOfRow.holds Try.pinned (OpenSpec.ofChange fnExactHandsOfSpec)

/-- ITS FALSE NEIGHBOUR: 'it returns false'. Refute it at one input. -/
def fnExactHandsOfWrong : ChangeSpec := { name := "fnExactHandsOf", fn := fun _ => fun
  | [d1, d2, d3] => { results := [.lit (.bool false)], args := [d1, d2, d3] }
  | _ => none }
def FnExactHandsOfWrongFalsely : Prop := fnExactHandsOfRow.holds Try.pinned (OpenSpec.ofChange fnExactHandsOfWrong)

/-- 'laws.FnExactFingersOf': WHATEVER THE INPUT: true; the input reads as it did. -/
def fnExactFingersOfSpec : ChangeSpec := { name := "fnExactFingersOf", fn := fun _ => fun
  | [d1, d2, d3] => { results := [.lit (.bool true)], args := [d1, d2, d3] }
  | _ => none }
def fnExactFingersOfRow : OpenClaim := { program := "ytmnafnjhioeicaa", sum := "6d14b5d37c66a3e83677f42f7a646abf27a4a8f194ca22f3f9322c541468b1c0", func := "loop.example/g01045/laws.FnExactFingersOf", spec := "fnExactFingersOf", inPlace := ["internal/bytealg.IndexByteString"], unfollowed := true, recurses := true, apart := false }
def FnExactFingersOfSaid : Prop := fnExactFingersOfRow.holds Try.pinned (OpenSpec.ofChange fnExactFingersOfSpec)

/-- ITS FALSE NEIGHBOUR: 'it returns false'. Refute it at one input. -/
def fnExactFingersOfWrong : ChangeSpec := { name := "fnExactFingersOf", fn := fun _ => fun
  | [d1, d2, d3] => { results := [.lit (.bool false)], args := [d1, d2, d3] }
  | _ => none }
def FnExactFingersOfWrongFalsely : Prop := fnExactFingersOfRow.holds Try.pinned (OpenSpec.ofChange fnExactFingersOfWrong)

/-- 'laws.FnExactAlternationsOf': WHATEVER THE INPUT: true; the input reads as it did. -/
def fnExactAlternationsOfSpec : ChangeSpec := { name := "fnExactAlternationsOf", fn := fun _ => fun
  | [d1, d2, d3] => { results := [.lit (.bool true)], args := [d1, d2, d3] }
  | _ => none }
def fnExactAlternationsOfRow : OpenClaim := { program := "ytmnafnjhioeicaa", sum := "6d14b5d37c66a3e83677f42f7a646abf27a4a8f194ca22f3f9322c541468b1c0", func := "loop.example/g01045/laws.FnExactAlternationsOf", spec := "fnExactAlternationsOf", inPlace := ["internal/bytealg.IndexByteString"], unfollowed := true, recurses := true, apart := false }
def FnExactAlternationsOfSaid : Prop := fnExactAlternationsOfRow.holds Try.pinned (OpenSpec.ofChange fnExactAlternationsOfSpec)

/-- ITS FALSE NEIGHBOUR: 'it returns false'. Refute it at one input. -/
def fnExactAlternationsOfWrong : ChangeSpec := { name := "fnExactAlternationsOf", fn := fun _ => fun
  | [d1, d2, d3] => { results := [.lit (.bool false)], args := [d1, d2, d3] }
  | _ => none }
def FnExactAlternationsOfWrongFalsely : Prop := fnExactAlternationsOfRow.holds Try.pinned (OpenSpec.ofChange fnExactAlternationsOfWrong)

/-- 'laws.FnExactDearestPair': WHATEVER THE INPUT: true; the input reads as it did. -/
def fnExactDearestPairSpec : ChangeSpec := { name := "fnExactDearestPair", fn := fun _ => fun
  | [d1, d2, d3] => { results := [.lit (.bool true)], args := [d1, d2, d3] }
  | _ => none }
def fnExactDearestPairRow : OpenClaim := { program := "ytmnafnjhioeicaa", sum := "6d14b5d37c66a3e83677f42f7a646abf27a4a8f194ca22f3f9322c541468b1c0", func := "loop.example/g01045/laws.FnExactDearestPair", spec := "fnExactDearestPair", inPlace := ["internal/bytealg.IndexByteString"], unfollowed := true, recurses := true, apart := false }
def FnExactDearestPairSaid : Prop := fnExactDearestPairRow.holds Try.pinned (OpenSpec.ofChange fnExactDearestPairSpec)

/-- ITS FALSE NEIGHBOUR: 'it returns false'. Refute it at one input. -/
def fnExactDearestPairWrong : ChangeSpec := { name := "fnExactDearestPair", fn := fun _ => fun
  | [d1, d2, d3] => { results := [.lit (.bool false)], args := [d1, d2, d3] }
  | _ => none }
def FnExactDearestPairWrongFalsely : Prop := fnExactDearestPairRow.holds Try.pinned (OpenSpec.ofChange fnExactDearestPairWrong)

/-- 'laws.FnExactPairsOf': WHATEVER THE INPUT: true; the input reads as it did. -/
def fnExactPairsOfSpec : ChangeSpec := { name := "fnExactPairsOf", fn := fun _ => fun
  | [d1, d2] => { results := [.lit (.bool true)], args := [d1, d2] }
  | _ => none }
def fnExactPairsOfRow : OpenClaim := { program := "ytmnafnjhioeicaa", sum := "6d14b5d37c66a3e83677f42f7a646abf27a4a8f194ca22f3f9322c541468b1c0", func := "loop.example/g01045/laws.FnExactPairsOf", spec := "fnExactPairsOf", inPlace := ["internal/bytealg.IndexByteString"], apart := false }
def FnExactPairsOfSaid : Prop := fnExactPairsOfRow.holds Try.pinned (OpenSpec.ofChange fnExactPairsOfSpec)

/-- ITS FALSE NEIGHBOUR: 'it returns false'. Refute it at one input. -/
def fnExactPairsOfWrong : ChangeSpec := { name := "fnExactPairsOf", fn := fun _ => fun
  | [d1, d2] => { results := [.lit (.bool false)], args := [d1, d2] }
  | _ => none }
def FnExactPairsOfWrongFalsely : Prop := fnExactPairsOfRow.holds Try.pinned (OpenSpec.ofChange fnExactPairsOfWrong)

/- THE SECOND FORM. 'bulk': how many values and letters a reading holds, each counted each time it is reached (what is shared counts as often as it is met; a slice's spare places count too). A statement '..UptoSaid' is the law's where the arguments, and the package variables that the reading takes, are together of bulk at most 1048576: NARROWER than '..Said'. Prove '..Said' where nothing that the law and all that it calls make is longer than what came in: it says more and counts as full. Else prove '..UptoSaid'. A law counts once. -/
mutual
def uptoBulk {H : Type} : DataW H → Nat
  | .lit (.string bytes) => bytes.length + 1
  | .lit _ => 1
  | .nil => 1
  | .ptr d => uptoBulk d + 1
  | .slice elems spare => uptoBulkAll elems + uptoBulkAll spare + 1
  | .agg parts => uptoBulkAll parts + 1
  | .iface _ d => uptoBulk d + 1
  | .map entries => uptoBulkEntries entries + 1
  | .held _ => 1
def uptoBulkAll {H : Type} : List (DataW H) → Nat
  | [] => 0
  | d :: r => uptoBulk d + uptoBulkAll r
def uptoBulkEntries {H : Type} : List (Lit × DataW H) → Nat
  | [] => 0
  | x :: r => uptoBulkEntry x + uptoBulkEntries r
def uptoBulkEntry {H : Type} : Lit × DataW H → Nat
  | (.string bytes, d) => bytes.length + uptoBulk d + 1
  | (_, d) => uptoBulk d + 1
 end
def uptoSmall : (H : Type) → List (DataW H) → Bool := fun _ ds => decide (uptoBulkAll ds ≤ 1048576)
def OpenSpec.upto (s : _root_.Go.ChangeSpec) : _root_.Go.OpenSpec := { _root_.Go.OpenSpec.ofChange s with cond := some uptoSmall }

/-- 'laws.FnExactValidBoard', WHERE WHAT IT READS IS OF BULK AT MOST 1048576: true; the input reads as it did. -/
def fnExactValidBoardUptoRow : OpenClaim := { program := "ytmnafnjhioeicaa", sum := "6d14b5d37c66a3e83677f42f7a646abf27a4a8f194ca22f3f9322c541468b1c0", func := "loop.example/g01045/laws.FnExactValidBoard", spec := "fnExactValidBoard", unfollowed := true, recurses := true, apart := false, narrowed := true }
def FnExactValidBoardUptoSaid : Prop := fnExactValidBoardUptoRow.holds Try.pinned (OpenSpec.upto fnExactValidBoardSpec)

/-- 'laws.FnExactStrokeCost', WHERE WHAT IT READS IS OF BULK AT MOST 1048576: true; the input reads as it did. -/
def fnExactStrokeCostUptoRow : OpenClaim := { program := "ytmnafnjhioeicaa", sum := "6d14b5d37c66a3e83677f42f7a646abf27a4a8f194ca22f3f9322c541468b1c0", func := "loop.example/g01045/laws.FnExactStrokeCost", spec := "fnExactStrokeCost", unfollowed := true, recurses := true, apart := false, narrowed := true }
def FnExactStrokeCostUptoSaid : Prop := fnExactStrokeCostUptoRow.holds Try.pinned (OpenSpec.upto fnExactStrokeCostSpec)

/-- 'laws.FnExactTextCost', WHERE WHAT IT READS IS OF BULK AT MOST 1048576: true; the input reads as it did. -/
def fnExactTextCostUptoRow : OpenClaim := { program := "ytmnafnjhioeicaa", sum := "6d14b5d37c66a3e83677f42f7a646abf27a4a8f194ca22f3f9322c541468b1c0", func := "loop.example/g01045/laws.FnExactTextCost", spec := "fnExactTextCost", inPlace := ["internal/bytealg.IndexByteString"], unfollowed := true, recurses := true, apart := false, narrowed := true }
def FnExactTextCostUptoSaid : Prop := fnExactTextCostUptoRow.holds Try.pinned (OpenSpec.upto fnExactTextCostSpec)

/-- 'laws.FnExactHandsOf', WHERE WHAT IT READS IS OF BULK AT MOST 1048576: true; the input reads as it did. -/
def fnExactHandsOfUptoRow : OpenClaim := { program := "ytmnafnjhioeicaa", sum := "6d14b5d37c66a3e83677f42f7a646abf27a4a8f194ca22f3f9322c541468b1c0", func := "loop.example/g01045/laws.FnExactHandsOf", spec := "fnExactHandsOf", inPlace := ["internal/bytealg.IndexByteString"], unfollowed := true, recurses := true, apart := false, narrowed := true }
def FnExactHandsOfUptoSaid : Prop := fnExactHandsOfUptoRow.holds Try.pinned (OpenSpec.upto fnExactHandsOfSpec)

/-- 'laws.FnExactFingersOf', WHERE WHAT IT READS IS OF BULK AT MOST 1048576: true; the input reads as it did. -/
def fnExactFingersOfUptoRow : OpenClaim := { program := "ytmnafnjhioeicaa", sum := "6d14b5d37c66a3e83677f42f7a646abf27a4a8f194ca22f3f9322c541468b1c0", func := "loop.example/g01045/laws.FnExactFingersOf", spec := "fnExactFingersOf", inPlace := ["internal/bytealg.IndexByteString"], unfollowed := true, recurses := true, apart := false, narrowed := true }
def FnExactFingersOfUptoSaid : Prop := fnExactFingersOfUptoRow.holds Try.pinned (OpenSpec.upto fnExactFingersOfSpec)

/-- 'laws.FnExactAlternationsOf', WHERE WHAT IT READS IS OF BULK AT MOST 1048576: true; the input reads as it did. -/
def fnExactAlternationsOfUptoRow : OpenClaim := { program := "ytmnafnjhioeicaa", sum := "6d14b5d37c66a3e83677f42f7a646abf27a4a8f194ca22f3f9322c541468b1c0", func := "loop.example/g01045/laws.FnExactAlternationsOf", spec := "fnExactAlternationsOf", inPlace := ["internal/bytealg.IndexByteString"], unfollowed := true, recurses := true, apart := false, narrowed := true }
def FnExactAlternationsOfUptoSaid : Prop := fnExactAlternationsOfUptoRow.holds Try.pinned (OpenSpec.upto fnExactAlternationsOfSpec)

/-- 'laws.FnExactDearestPair', WHERE WHAT IT READS IS OF BULK AT MOST 1048576: true; the input reads as it did. -/
def fnExactDearestPairUptoRow : OpenClaim := { program := "ytmnafnjhioeicaa", sum := "6d14b5d37c66a3e83677f42f7a646abf27a4a8f194ca22f3f9322c541468b1c0", func := "loop.example/g01045/laws.FnExactDearestPair", spec := "fnExactDearestPair", inPlace := ["internal/bytealg.IndexByteString"], unfollowed := true, recurses := true, apart := false, narrowed := true }
def FnExactDearestPairUptoSaid : Prop := fnExactDearestPairUptoRow.holds Try.pinned (OpenSpec.upto fnExactDearestPairSpec)

/-- 'laws.FnExactPairsOf', WHERE WHAT IT READS IS OF BULK AT MOST 1048576: true; the input reads as it did. -/
def fnExactPairsOfUptoRow : OpenClaim := { program := "ytmnafnjhioeicaa", sum := "6d14b5d37c66a3e83677f42f7a646abf27a4a8f194ca22f3f9322c541468b1c0", func := "loop.example/g01045/laws.FnExactPairsOf", spec := "fnExactPairsOf", inPlace := ["internal/bytealg.IndexByteString"], apart := false, narrowed := true }
def FnExactPairsOfUptoSaid : Prop := fnExactPairsOfUptoRow.holds Try.pinned (OpenSpec.upto fnExactPairsOfSpec)

end Rows
end Go.Proofs.Ytmnafnjhioeicaa
