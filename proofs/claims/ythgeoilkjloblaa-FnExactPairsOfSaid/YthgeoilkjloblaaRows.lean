/-
  No cell of these rows narrows 'for every input' (looked for: loops, veiled, ifaces, maps, wideKeys, modest, calm, conditions, laid).
  DERIVED. THE GIVEN ROWS OF THIS SEAT. 9 by the template 'for every input the law returns true; each argument reads behind the call as it read before'; 0 by the template 'total and deterministic' (their statements: YthgeoilkjloblaaTotals.lean).
  GIVEN WITH THE SEED: the statements are not yours to turn. If you find one false, say at which input.
  Laid BY PROGRAM, IN A SANDBOX (cutbox-rows.mjs): the forced cells as the released guide's own fill.sh prints them over the translation 4690ee1202fe9878… (all of the seat's roots in one cut). By AI agents, Wed Nov 11 2026. No macro, syntax, notation, axiom, sorry.
-/
import Derived.Test.YthgeoilkjloblaaChecked
import GoSem.Claim
import GoSem.ClaimJoined
import GoSem.ClaimMapViews
import Derived.JoinedTies
import Derived.KernelRfl
namespace Go.Proofs.Ythgeoilkjloblaa
/- THE CELL 'sum', in the pinned program and in every row, IS THE sha256 OF THE DUMP (.gsa) THAT YthgeoilkjloblaaProg.lean LOADS. Nothing in Lean hashes anything: it is a label: what it is worth is what the hold of that sum in a sandbox is worth. -/
noncomputable def Try.pinned : Pinned := { name := "ythgeoilkjloblaa", sum := "4690ee1202fe987886be204a1c9327bc4cb27a2f83a43831e1103431fbf95a78", checked := Try.checked }
namespace Rows
def none {H : Type} : Left H := { results := [], args := [] }

/-- 'laws.FnExactValidPairs': WHATEVER THE INPUT: true; the input reads as it did. -/
def fnExactValidPairsSpec : ChangeSpec := { name := "fnExactValidPairs", fn := fun _ => fun
  | [d] => { results := [.lit (.bool true)], args := [d] }
  | _ => none }
def fnExactValidPairsRow : OpenClaim := { program := "ythgeoilkjloblaa", sum := "4690ee1202fe987886be204a1c9327bc4cb27a2f83a43831e1103431fbf95a78", func := "loop.example/g01045/laws.FnExactValidPairs", spec := "fnExactValidPairs", unfollowed := true, recurses := true, apart := false }
def FnExactValidPairsSaid : Prop := fnExactValidPairsRow.holds Try.pinned (OpenSpec.ofChange fnExactValidPairsSpec)

/-- ITS FALSE NEIGHBOUR: 'it returns false'. Refute it at one input. -/
def fnExactValidPairsWrong : ChangeSpec := { name := "fnExactValidPairs", fn := fun _ => fun
  | [d] => { results := [.lit (.bool false)], args := [d] }
  | _ => none }
def FnExactValidPairsWrongFalsely : Prop := fnExactValidPairsRow.holds Try.pinned (OpenSpec.ofChange fnExactValidPairsWrong)

/-- 'laws.FnExactPairsOf': WHATEVER THE INPUT: true; the input reads as it did. -/
def fnExactPairsOfSpec : ChangeSpec := { name := "fnExactPairsOf", fn := fun _ => fun
  | [d1, d2] => { results := [.lit (.bool true)], args := [d1, d2] }
  | _ => none }
def fnExactPairsOfRow : OpenClaim := { program := "ythgeoilkjloblaa", sum := "4690ee1202fe987886be204a1c9327bc4cb27a2f83a43831e1103431fbf95a78", func := "loop.example/g01045/laws.FnExactPairsOf", spec := "fnExactPairsOf", inPlace := ["internal/bytealg.IndexByteString"], apart := false }
def FnExactPairsOfSaid : Prop := fnExactPairsOfRow.holds Try.pinned (OpenSpec.ofChange fnExactPairsOfSpec)

/-- ITS FALSE NEIGHBOUR: 'it returns false'. Refute it at one input. -/
def fnExactPairsOfWrong : ChangeSpec := { name := "fnExactPairsOf", fn := fun _ => fun
  | [d1, d2] => { results := [.lit (.bool false)], args := [d1, d2] }
  | _ => none }
def FnExactPairsOfWrongFalsely : Prop := fnExactPairsOfRow.holds Try.pinned (OpenSpec.ofChange fnExactPairsOfWrong)

/-- 'laws.FnExactArrangeCost': WHATEVER THE INPUT: true; the input reads as it did. -/
def fnExactArrangeCostSpec : ChangeSpec := { name := "fnExactArrangeCost", fn := fun _ => fun
  | [d1, d2, d3] => { results := [.lit (.bool true)], args := [d1, d2, d3] }
  | _ => none }
def fnExactArrangeCostRow : OpenClaim := { program := "ythgeoilkjloblaa", sum := "4690ee1202fe987886be204a1c9327bc4cb27a2f83a43831e1103431fbf95a78", func := "loop.example/g01045/laws.FnExactArrangeCost", spec := "fnExactArrangeCost", unfollowed := true, recurses := true, apart := false }
def FnExactArrangeCostSaid : Prop := fnExactArrangeCostRow.holds Try.pinned (OpenSpec.ofChange fnExactArrangeCostSpec)

/-- ITS FALSE NEIGHBOUR: 'it returns false'. Refute it at one input. -/
def fnExactArrangeCostWrong : ChangeSpec := { name := "fnExactArrangeCost", fn := fun _ => fun
  | [d1, d2, d3] => { results := [.lit (.bool false)], args := [d1, d2, d3] }
  | _ => none }
def FnExactArrangeCostWrongFalsely : Prop := fnExactArrangeCostRow.holds Try.pinned (OpenSpec.ofChange fnExactArrangeCostWrong)

/-- 'laws.FnExactBestArrange': WHATEVER THE INPUT: true; the input reads as it did. -/
def fnExactBestArrangeSpec : ChangeSpec := { name := "fnExactBestArrange", fn := fun _ => fun
  | [d1, d2] => { results := [.lit (.bool true)], args := [d1, d2] }
  | _ => none }
def fnExactBestArrangeRow : OpenClaim := { program := "ythgeoilkjloblaa", sum := "4690ee1202fe987886be204a1c9327bc4cb27a2f83a43831e1103431fbf95a78", func := "loop.example/g01045/laws.FnExactBestArrange", spec := "fnExactBestArrange", unfollowed := true, recurses := true, apart := false }
def FnExactBestArrangeSaid : Prop := fnExactBestArrangeRow.holds Try.pinned (OpenSpec.ofChange fnExactBestArrangeSpec)

/-- ITS FALSE NEIGHBOUR: 'it returns false'. Refute it at one input. -/
def fnExactBestArrangeWrong : ChangeSpec := { name := "fnExactBestArrange", fn := fun _ => fun
  | [d1, d2] => { results := [.lit (.bool false)], args := [d1, d2] }
  | _ => none }
def FnExactBestArrangeWrongFalsely : Prop := fnExactBestArrangeRow.holds Try.pinned (OpenSpec.ofChange fnExactBestArrangeWrong)

/-- 'laws.FnExactArrangeBound': WHATEVER THE INPUT: true; the input reads as it did. -/
def fnExactArrangeBoundSpec : ChangeSpec := { name := "fnExactArrangeBound", fn := fun _ => fun
  | [d1, d2] => { results := [.lit (.bool true)], args := [d1, d2] }
  | _ => none }
def fnExactArrangeBoundRow : OpenClaim := { program := "ythgeoilkjloblaa", sum := "4690ee1202fe987886be204a1c9327bc4cb27a2f83a43831e1103431fbf95a78", func := "loop.example/g01045/laws.FnExactArrangeBound", spec := "fnExactArrangeBound", unfollowed := true, recurses := true, apart := false }
def FnExactArrangeBoundSaid : Prop := fnExactArrangeBoundRow.holds Try.pinned (OpenSpec.ofChange fnExactArrangeBoundSpec)

/-- ITS FALSE NEIGHBOUR: 'it returns false'. Refute it at one input. -/
def fnExactArrangeBoundWrong : ChangeSpec := { name := "fnExactArrangeBound", fn := fun _ => fun
  | [d1, d2] => { results := [.lit (.bool false)], args := [d1, d2] }
  | _ => none }
def FnExactArrangeBoundWrongFalsely : Prop := fnExactArrangeBoundRow.holds Try.pinned (OpenSpec.ofChange fnExactArrangeBoundWrong)

/-- 'laws.FnExactSwapLetters': WHATEVER THE INPUT: true; the input reads as it did. -/
def fnExactSwapLettersSpec : ChangeSpec := { name := "fnExactSwapLetters", fn := fun _ => fun
  | [d1, d2, d3, d4] => { results := [.lit (.bool true)], args := [d1, d2, d3, d4] }
  | _ => none }
def fnExactSwapLettersRow : OpenClaim := { program := "ythgeoilkjloblaa", sum := "4690ee1202fe987886be204a1c9327bc4cb27a2f83a43831e1103431fbf95a78", func := "loop.example/g01045/laws.FnExactSwapLetters", spec := "fnExactSwapLetters", apart := false }
def FnExactSwapLettersSaid : Prop := fnExactSwapLettersRow.holds Try.pinned (OpenSpec.ofChange fnExactSwapLettersSpec)

/-- ITS FALSE NEIGHBOUR: 'it returns false'. Refute it at one input. -/
def fnExactSwapLettersWrong : ChangeSpec := { name := "fnExactSwapLetters", fn := fun _ => fun
  | [d1, d2, d3, d4] => { results := [.lit (.bool false)], args := [d1, d2, d3, d4] }
  | _ => none }
def FnExactSwapLettersWrongFalsely : Prop := fnExactSwapLettersRow.holds Try.pinned (OpenSpec.ofChange fnExactSwapLettersWrong)

/-- 'laws.FnExactBestSwap': WHATEVER THE INPUT: true; the input reads as it did. -/
def fnExactBestSwapSpec : ChangeSpec := { name := "fnExactBestSwap", fn := fun _ => fun
  | [d1, d2, d3] => { results := [.lit (.bool true)], args := [d1, d2, d3] }
  | _ => none }
def fnExactBestSwapRow : OpenClaim := { program := "ythgeoilkjloblaa", sum := "4690ee1202fe987886be204a1c9327bc4cb27a2f83a43831e1103431fbf95a78", func := "loop.example/g01045/laws.FnExactBestSwap", spec := "fnExactBestSwap", unfollowed := true, recurses := true, apart := false }
def FnExactBestSwapSaid : Prop := fnExactBestSwapRow.holds Try.pinned (OpenSpec.ofChange fnExactBestSwapSpec)

/-- ITS FALSE NEIGHBOUR: 'it returns false'. Refute it at one input. -/
def fnExactBestSwapWrong : ChangeSpec := { name := "fnExactBestSwap", fn := fun _ => fun
  | [d1, d2, d3] => { results := [.lit (.bool false)], args := [d1, d2, d3] }
  | _ => none }
def FnExactBestSwapWrongFalsely : Prop := fnExactBestSwapRow.holds Try.pinned (OpenSpec.ofChange fnExactBestSwapWrong)

/-- 'laws.FnExactImproveArrange': WHATEVER THE INPUT: true; the input reads as it did. -/
def fnExactImproveArrangeSpec : ChangeSpec := { name := "fnExactImproveArrange", fn := fun _ => fun
  | [d1, d2, d3] => { results := [.lit (.bool true)], args := [d1, d2, d3] }
  | _ => none }
def fnExactImproveArrangeRow : OpenClaim := { program := "ythgeoilkjloblaa", sum := "4690ee1202fe987886be204a1c9327bc4cb27a2f83a43831e1103431fbf95a78", func := "loop.example/g01045/laws.FnExactImproveArrange", spec := "fnExactImproveArrange", unfollowed := true, recurses := true, apart := false }
def FnExactImproveArrangeSaid : Prop := fnExactImproveArrangeRow.holds Try.pinned (OpenSpec.ofChange fnExactImproveArrangeSpec)

/-- ITS FALSE NEIGHBOUR: 'it returns false'. Refute it at one input. -/
def fnExactImproveArrangeWrong : ChangeSpec := { name := "fnExactImproveArrange", fn := fun _ => fun
  | [d1, d2, d3] => { results := [.lit (.bool false)], args := [d1, d2, d3] }
  | _ => none }
def FnExactImproveArrangeWrongFalsely : Prop := fnExactImproveArrangeRow.holds Try.pinned (OpenSpec.ofChange fnExactImproveArrangeWrong)

/-- 'laws.FnExactMirrorArrange': WHATEVER THE INPUT: true; the input reads as it did. -/
def fnExactMirrorArrangeSpec : ChangeSpec := { name := "fnExactMirrorArrange", fn := fun _ => fun
  | [d1, d2] => { results := [.lit (.bool true)], args := [d1, d2] }
  | _ => none }
def fnExactMirrorArrangeRow : OpenClaim := { program := "ythgeoilkjloblaa", sum := "4690ee1202fe987886be204a1c9327bc4cb27a2f83a43831e1103431fbf95a78", func := "loop.example/g01045/laws.FnExactMirrorArrange", spec := "fnExactMirrorArrange", apart := false }
def FnExactMirrorArrangeSaid : Prop := fnExactMirrorArrangeRow.holds Try.pinned (OpenSpec.ofChange fnExactMirrorArrangeSpec)

/-- ITS FALSE NEIGHBOUR: 'it returns false'. Refute it at one input. -/
def fnExactMirrorArrangeWrong : ChangeSpec := { name := "fnExactMirrorArrange", fn := fun _ => fun
  | [d1, d2] => { results := [.lit (.bool false)], args := [d1, d2] }
  | _ => none }
def FnExactMirrorArrangeWrongFalsely : Prop := fnExactMirrorArrangeRow.holds Try.pinned (OpenSpec.ofChange fnExactMirrorArrangeWrong)

/- THE SECOND FORM. 'bulk': how many values and letters a reading holds, each counted each time it is reached (what is shared counts as often as it is met; a slice's spare places count too). A statement '..UptoSaid' is the law's where the arguments, and the package variables that the reading takes, are together of bulk at most 1048576: NARROWER than '..Said'. Prove '..Said' where nothing that the law and all that it calls make is longer than what came in: it says more and counts as full. Else prove '..UptoSaid'. A law counts once. -/
mutual
def uptoBulk {H : Type} : DataW H → Nat
  | .lit (.string bytes) => bytes.length + 1
  | .lit _ => 1
  | .nil => 1
  | .ptr d => uptoBulk d + 1
  | .slice elems spare => uptoBulkAll elems + uptoBulkAll spare + 1
  | .agg parts => uptoBulkAll parts + 1
  | .iface _ d => uptoBulk d + 1
  | .map entries => uptoBulkEntries entries + 1
  | .held _ => 1
def uptoBulkAll {H : Type} : List (DataW H) → Nat
  | [] => 0
  | d :: r => uptoBulk d + uptoBulkAll r
def uptoBulkEntries {H : Type} : List (Lit × DataW H) → Nat
  | [] => 0
  | x :: r => uptoBulkEntry x + uptoBulkEntries r
def uptoBulkEntry {H : Type} : Lit × DataW H → Nat
  | (.string bytes, d) => bytes.length + uptoBulk d + 1
  | (_, d) => uptoBulk d + 1
 end
def uptoSmall : (H : Type) → List (DataW H) → Bool := fun _ ds => decide (uptoBulkAll ds ≤ 1048576)
def OpenSpec.upto (s : _root_.Go.ChangeSpec) : _root_.Go.OpenSpec := { _root_.Go.OpenSpec.ofChange s with cond := some uptoSmall }

/-- 'laws.FnExactValidPairs', WHERE WHAT IT READS IS OF BULK AT MOST 1048576: true; the input reads as it did. -/
def fnExactValidPairsUptoRow : OpenClaim := { program := "ythgeoilkjloblaa", sum := "4690ee1202fe987886be204a1c9327bc4cb27a2f83a43831e1103431fbf95a78", func := "loop.example/g01045/laws.FnExactValidPairs", spec := "fnExactValidPairs", unfollowed := true, recurses := true, apart := false, narrowed := true }
def FnExactValidPairsUptoSaid : Prop := fnExactValidPairsUptoRow.holds Try.pinned (OpenSpec.upto fnExactValidPairsSpec)

/-- 'laws.FnExactPairsOf', WHERE WHAT IT READS IS OF BULK AT MOST 1048576: true; the input reads as it did. -/
def fnExactPairsOfUptoRow : OpenClaim := { program := "ythgeoilkjloblaa", sum := "4690ee1202fe987886be204a1c9327bc4cb27a2f83a43831e1103431fbf95a78", func := "loop.example/g01045/laws.FnExactPairsOf", spec := "fnExactPairsOf", inPlace := ["internal/bytealg.IndexByteString"], apart := false, narrowed := true }
def FnExactPairsOfUptoSaid : Prop := fnExactPairsOfUptoRow.holds Try.pinned (OpenSpec.upto fnExactPairsOfSpec)

/-- 'laws.FnExactArrangeCost', WHERE WHAT IT READS IS OF BULK AT MOST 1048576: true; the input reads as it did. -/
def fnExactArrangeCostUptoRow : OpenClaim := { program := "ythgeoilkjloblaa", sum := "4690ee1202fe987886be204a1c9327bc4cb27a2f83a43831e1103431fbf95a78", func := "loop.example/g01045/laws.FnExactArrangeCost", spec := "fnExactArrangeCost", unfollowed := true, recurses := true, apart := false, narrowed := true }
def FnExactArrangeCostUptoSaid : Prop := fnExactArrangeCostUptoRow.holds Try.pinned (OpenSpec.upto fnExactArrangeCostSpec)

/-- 'laws.FnExactBestArrange', WHERE WHAT IT READS IS OF BULK AT MOST 1048576: true; the input reads as it did. -/
def fnExactBestArrangeUptoRow : OpenClaim := { program := "ythgeoilkjloblaa", sum := "4690ee1202fe987886be204a1c9327bc4cb27a2f83a43831e1103431fbf95a78", func := "loop.example/g01045/laws.FnExactBestArrange", spec := "fnExactBestArrange", unfollowed := true, recurses := true, apart := false, narrowed := true }
def FnExactBestArrangeUptoSaid : Prop := fnExactBestArrangeUptoRow.holds Try.pinned (OpenSpec.upto fnExactBestArrangeSpec)

/-- 'laws.FnExactArrangeBound', WHERE WHAT IT READS IS OF BULK AT MOST 1048576: true; the input reads as it did. -/
def fnExactArrangeBoundUptoRow : OpenClaim := { program := "ythgeoilkjloblaa", sum := "4690ee1202fe987886be204a1c9327bc4cb27a2f83a43831e1103431fbf95a78", func := "loop.example/g01045/laws.FnExactArrangeBound", spec := "fnExactArrangeBound", unfollowed := true, recurses := true, apart := false, narrowed := true }
def FnExactArrangeBoundUptoSaid : Prop := fnExactArrangeBoundUptoRow.holds Try.pinned (OpenSpec.upto fnExactArrangeBoundSpec)

/-- 'laws.FnExactSwapLetters', WHERE WHAT IT READS IS OF BULK AT MOST 1048576: true; the input reads as it did. -/
def fnExactSwapLettersUptoRow : OpenClaim := { program := "ythgeoilkjloblaa", sum := "4690ee1202fe987886be204a1c9327bc4cb27a2f83a43831e1103431fbf95a78", func := "loop.example/g01045/laws.FnExactSwapLetters", spec := "fnExactSwapLetters", apart := false, narrowed := true }
def FnExactSwapLettersUptoSaid : Prop := fnExactSwapLettersUptoRow.holds Try.pinned (OpenSpec.upto fnExactSwapLettersSpec)

/-- 'laws.FnExactBestSwap', WHERE WHAT IT READS IS OF BULK AT MOST 1048576: true; the input reads as it did. -/
def fnExactBestSwapUptoRow : OpenClaim := { program := "ythgeoilkjloblaa", sum := "4690ee1202fe987886be204a1c9327bc4cb27a2f83a43831e1103431fbf95a78", func := "loop.example/g01045/laws.FnExactBestSwap", spec := "fnExactBestSwap", unfollowed := true, recurses := true, apart := false, narrowed := true }
def FnExactBestSwapUptoSaid : Prop := fnExactBestSwapUptoRow.holds Try.pinned (OpenSpec.upto fnExactBestSwapSpec)

/-- 'laws.FnExactImproveArrange', WHERE WHAT IT READS IS OF BULK AT MOST 1048576: true; the input reads as it did. -/
def fnExactImproveArrangeUptoRow : OpenClaim := { program := "ythgeoilkjloblaa", sum := "4690ee1202fe987886be204a1c9327bc4cb27a2f83a43831e1103431fbf95a78", func := "loop.example/g01045/laws.FnExactImproveArrange", spec := "fnExactImproveArrange", unfollowed := true, recurses := true, apart := false, narrowed := true }
def FnExactImproveArrangeUptoSaid : Prop := fnExactImproveArrangeUptoRow.holds Try.pinned (OpenSpec.upto fnExactImproveArrangeSpec)

/-- 'laws.FnExactMirrorArrange', WHERE WHAT IT READS IS OF BULK AT MOST 1048576: true; the input reads as it did. -/
def fnExactMirrorArrangeUptoRow : OpenClaim := { program := "ythgeoilkjloblaa", sum := "4690ee1202fe987886be204a1c9327bc4cb27a2f83a43831e1103431fbf95a78", func := "loop.example/g01045/laws.FnExactMirrorArrange", spec := "fnExactMirrorArrange", apart := false, narrowed := true }
def FnExactMirrorArrangeUptoSaid : Prop := fnExactMirrorArrangeUptoRow.holds Try.pinned (OpenSpec.upto fnExactMirrorArrangeSpec)

end Rows
end Go.Proofs.Ythgeoilkjloblaa
