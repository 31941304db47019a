/-
  NARROWER THAN 'FOR EVERY INPUT', by the rows' own cells (each row's printed sentence says how): FnExactCentreText: laid · FnExactRightText: laid · FnExactSpreadText: laid · FnExactJoinSpread: laid · FnExactUnderlineText: laid · FnExactLeaderLine: laid · FnExactBackSpaces: laid · FnExactTitlePage: laid.
  DERIVED. THE GIVEN ROWS OF THIS SEAT. 8 by the template 'for every input the law returns true; each argument reads behind the call as it read before'; 0 by the template 'total and deterministic' (their statements: YtalmpiffjghhkaaDoorTotals.lean).
  GIVEN WITH THE SEED: the statements are not yours to turn. If you find one false, say at which input.
  Laid BY PROGRAM, IN A SANDBOX (cutbox-rows.mjs): the forced cells as the released guide's own fill.sh prints them over the translation 196c4cb5867d55cd… (all of the seat's roots in one cut). By AI agents, Wed Nov 11 2026. No macro, syntax, notation, axiom, sorry.
-/
import Derived.Test.YtalmpiffjghhkaaDoorChecked
import GoSem.PinnedTables
import GoSem.Claim
import GoSem.ClaimJoined
import GoSem.ClaimMapViews
import Derived.JoinedTies
import Derived.KernelRfl
namespace Go.Proofs.YtalmpiffjghhkaaDoor
/- THE CELL 'sum', in the pinned program and in every row, IS THE sha256 OF THE DUMP (.gsa) THAT YtalmpiffjghhkaaDoorProg.lean LOADS. Nothing in Lean hashes anything: it is a label: what it is worth is what the hold of that sum in a sandbox is worth. -/
noncomputable def Tryd.pinned : Pinned := { name := "ytalmpiffjghhkaadoor", sum := "196c4cb5867d55cd3830ccf26e06753380cf12b8bf2d6ec737efa3e1a5525da0", checked := Tryd.checked }
namespace Rows
def none {H : Type} : Left H := { results := [], args := [] }

/- WHAT THE LISTED PACKAGE-LEVEL VARIABLES READ AS WHEN THE CALL BEGINS. Each datum BY PROGRAM (the guide's laid-datum.mjs) off the statement by which the dump's own 'gosem.cut.vars' lays the variable. In a bare row this is a premise. The card (YtalmpiffjghhkaaDoorCards.lean) ties it to the program's text. -/
def laid_unicode_utf8_acceptRanges {H : Type} : DataW H := .agg [.agg [.lit (.int .u8 128), .lit (.int .u8 191)], .agg [.lit (.int .u8 160), .lit (.int .u8 191)], .agg [.lit (.int .u8 128), .lit (.int .u8 159)], .agg [.lit (.int .u8 144), .lit (.int .u8 191)], .agg [.lit (.int .u8 128), .lit (.int .u8 143)], .agg [.lit (.int .u8 0), .lit (.int .u8 0)], .agg [.lit (.int .u8 0), .lit (.int .u8 0)], .agg [.lit (.int .u8 0), .lit (.int .u8 0)], .agg [.lit (.int .u8 0), .lit (.int .u8 0)], .agg [.lit (.int .u8 0), .lit (.int .u8 0)], .agg [.lit (.int .u8 0), .lit (.int .u8 0)], .agg [.lit (.int .u8 0), .lit (.int .u8 0)], .agg [.lit (.int .u8 0), .lit (.int .u8 0)], .agg [.lit (.int .u8 0), .lit (.int .u8 0)], .agg [.lit (.int .u8 0), .lit (.int .u8 0)], .agg [.lit (.int .u8 0), .lit (.int .u8 0)]]
/-- One of Go's own tables, pinned by name: the form's constant. -/
def laid_unicode_utf8_first : DataW Unit := Go.Pinned.utf8First

/-- 'laws.FnExactCentreText': WHATEVER THE INPUT: true; the input reads as it did. -/
def fnExactCentreTextSpec : ChangeSpec := { name := "fnExactCentreText", fn := fun _ => fun
  | [d1, d2] => { results := [.lit (.bool true)], args := [d1, d2] }
  | _ => none }
def fnExactCentreTextRow : OpenClaim := { program := "ytalmpiffjghhkaadoor", sum := "196c4cb5867d55cd3830ccf26e06753380cf12b8bf2d6ec737efa3e1a5525da0", func := "loop.example/g01045/laws.FnExactCentreText", spec := "fnExactCentreText", inPlace := ["internal/bytealg.IndexByteString", "internal/bytealg.IndexString", "internal/abi.NoEscape", "internal/bytealg.MakeNoZero"], named := ["unicode/utf8.first", "unicode/utf8.acceptRanges", "internal/bytealg.MaxLen"], apart := false, laid := [("unicode/utf8.acceptRanges", laid_unicode_utf8_acceptRanges), ("unicode/utf8.first", laid_unicode_utf8_first)] }
def FnExactCentreTextSaid : Prop := fnExactCentreTextRow.holds Tryd.pinned (OpenSpec.ofChange fnExactCentreTextSpec)

/-- ITS FALSE NEIGHBOUR: 'it returns false'. Refute it at one input. -/
def fnExactCentreTextWrong : ChangeSpec := { name := "fnExactCentreText", fn := fun _ => fun
  | [d1, d2] => { results := [.lit (.bool false)], args := [d1, d2] }
  | _ => none }
def FnExactCentreTextWrongFalsely : Prop := fnExactCentreTextRow.holds Tryd.pinned (OpenSpec.ofChange fnExactCentreTextWrong)

/-- 'laws.FnExactRightText': WHATEVER THE INPUT: true; the input reads as it did. -/
def fnExactRightTextSpec : ChangeSpec := { name := "fnExactRightText", fn := fun _ => fun
  | [d1, d2] => { results := [.lit (.bool true)], args := [d1, d2] }
  | _ => none }
def fnExactRightTextRow : OpenClaim := { program := "ytalmpiffjghhkaadoor", sum := "196c4cb5867d55cd3830ccf26e06753380cf12b8bf2d6ec737efa3e1a5525da0", func := "loop.example/g01045/laws.FnExactRightText", spec := "fnExactRightText", inPlace := ["internal/bytealg.IndexByteString", "internal/bytealg.IndexString", "internal/abi.NoEscape", "internal/bytealg.MakeNoZero"], named := ["unicode/utf8.first", "unicode/utf8.acceptRanges", "internal/bytealg.MaxLen"], apart := false, laid := [("unicode/utf8.acceptRanges", laid_unicode_utf8_acceptRanges), ("unicode/utf8.first", laid_unicode_utf8_first)] }
def FnExactRightTextSaid : Prop := fnExactRightTextRow.holds Tryd.pinned (OpenSpec.ofChange fnExactRightTextSpec)

/-- ITS FALSE NEIGHBOUR: 'it returns false'. Refute it at one input. -/
def fnExactRightTextWrong : ChangeSpec := { name := "fnExactRightText", fn := fun _ => fun
  | [d1, d2] => { results := [.lit (.bool false)], args := [d1, d2] }
  | _ => none }
def FnExactRightTextWrongFalsely : Prop := fnExactRightTextRow.holds Tryd.pinned (OpenSpec.ofChange fnExactRightTextWrong)

/-- 'laws.FnExactSpreadText': WHATEVER THE INPUT: true; the input reads as it did. -/
def fnExactSpreadTextSpec : ChangeSpec := { name := "fnExactSpreadText", fn := fun _ => fun
  | [d] => { results := [.lit (.bool true)], args := [d] }
  | _ => none }
def fnExactSpreadTextRow : OpenClaim := { program := "ytalmpiffjghhkaadoor", sum := "196c4cb5867d55cd3830ccf26e06753380cf12b8bf2d6ec737efa3e1a5525da0", func := "loop.example/g01045/laws.FnExactSpreadText", spec := "fnExactSpreadText", inPlace := ["internal/bytealg.IndexByteString", "internal/bytealg.IndexString", "internal/abi.NoEscape"], named := ["unicode/utf8.first", "unicode/utf8.acceptRanges", "internal/bytealg.MaxLen"], apart := false, laid := [("unicode/utf8.acceptRanges", laid_unicode_utf8_acceptRanges), ("unicode/utf8.first", laid_unicode_utf8_first)] }
def FnExactSpreadTextSaid : Prop := fnExactSpreadTextRow.holds Tryd.pinned (OpenSpec.ofChange fnExactSpreadTextSpec)

/-- ITS FALSE NEIGHBOUR: 'it returns false'. Refute it at one input. -/
def fnExactSpreadTextWrong : ChangeSpec := { name := "fnExactSpreadText", fn := fun _ => fun
  | [d] => { results := [.lit (.bool false)], args := [d] }
  | _ => none }
def FnExactSpreadTextWrongFalsely : Prop := fnExactSpreadTextRow.holds Tryd.pinned (OpenSpec.ofChange fnExactSpreadTextWrong)

/-- 'laws.FnExactJoinSpread': WHATEVER THE INPUT: true; the input reads as it did. -/
def fnExactJoinSpreadSpec : ChangeSpec := { name := "fnExactJoinSpread", fn := fun _ => fun
  | [d] => { results := [.lit (.bool true)], args := [d] }
  | _ => none }
def fnExactJoinSpreadRow : OpenClaim := { program := "ytalmpiffjghhkaadoor", sum := "196c4cb5867d55cd3830ccf26e06753380cf12b8bf2d6ec737efa3e1a5525da0", func := "loop.example/g01045/laws.FnExactJoinSpread", spec := "fnExactJoinSpread", inPlace := ["internal/bytealg.IndexByteString", "internal/bytealg.IndexString", "internal/abi.NoEscape"], named := ["unicode/utf8.first", "unicode/utf8.acceptRanges", "internal/bytealg.MaxLen"], apart := false, laid := [("unicode/utf8.acceptRanges", laid_unicode_utf8_acceptRanges), ("unicode/utf8.first", laid_unicode_utf8_first)] }
def FnExactJoinSpreadSaid : Prop := fnExactJoinSpreadRow.holds Tryd.pinned (OpenSpec.ofChange fnExactJoinSpreadSpec)

/-- ITS FALSE NEIGHBOUR: 'it returns false'. Refute it at one input. -/
def fnExactJoinSpreadWrong : ChangeSpec := { name := "fnExactJoinSpread", fn := fun _ => fun
  | [d] => { results := [.lit (.bool false)], args := [d] }
  | _ => none }
def FnExactJoinSpreadWrongFalsely : Prop := fnExactJoinSpreadRow.holds Tryd.pinned (OpenSpec.ofChange fnExactJoinSpreadWrong)

/-- 'laws.FnExactUnderlineText': WHATEVER THE INPUT: true; the input reads as it did. -/
def fnExactUnderlineTextSpec : ChangeSpec := { name := "fnExactUnderlineText", fn := fun _ => fun
  | [d] => { results := [.lit (.bool true)], args := [d] }
  | _ => none }
def fnExactUnderlineTextRow : OpenClaim := { program := "ytalmpiffjghhkaadoor", sum := "196c4cb5867d55cd3830ccf26e06753380cf12b8bf2d6ec737efa3e1a5525da0", func := "loop.example/g01045/laws.FnExactUnderlineText", spec := "fnExactUnderlineText", inPlace := ["internal/bytealg.IndexByteString", "internal/bytealg.IndexString"], named := ["unicode/utf8.first", "unicode/utf8.acceptRanges", "internal/bytealg.MaxLen"], apart := false, laid := [("unicode/utf8.acceptRanges", laid_unicode_utf8_acceptRanges), ("unicode/utf8.first", laid_unicode_utf8_first)] }
def FnExactUnderlineTextSaid : Prop := fnExactUnderlineTextRow.holds Tryd.pinned (OpenSpec.ofChange fnExactUnderlineTextSpec)

/-- ITS FALSE NEIGHBOUR: 'it returns false'. Refute it at one input. -/
def fnExactUnderlineTextWrong : ChangeSpec := { name := "fnExactUnderlineText", fn := fun _ => fun
  | [d] => { results := [.lit (.bool false)], args := [d] }
  | _ => none }
def FnExactUnderlineTextWrongFalsely : Prop := fnExactUnderlineTextRow.holds Tryd.pinned (OpenSpec.ofChange fnExactUnderlineTextWrong)

/-- 'laws.FnExactLeaderLine': WHATEVER THE INPUT: true; the input reads as it did. -/
def fnExactLeaderLineSpec : ChangeSpec := { name := "fnExactLeaderLine", fn := fun _ => fun
  | [d1, d2, d3] => { results := [.lit (.bool true)], args := [d1, d2, d3] }
  | _ => none }
def fnExactLeaderLineRow : OpenClaim := { program := "ytalmpiffjghhkaadoor", sum := "196c4cb5867d55cd3830ccf26e06753380cf12b8bf2d6ec737efa3e1a5525da0", func := "loop.example/g01045/laws.FnExactLeaderLine", spec := "fnExactLeaderLine", inPlace := ["internal/bytealg.IndexByteString", "internal/bytealg.IndexString", "internal/abi.NoEscape", "internal/bytealg.MakeNoZero"], named := ["unicode/utf8.first", "unicode/utf8.acceptRanges", "internal/bytealg.MaxLen"], apart := false, laid := [("unicode/utf8.acceptRanges", laid_unicode_utf8_acceptRanges), ("unicode/utf8.first", laid_unicode_utf8_first)] }
def FnExactLeaderLineSaid : Prop := fnExactLeaderLineRow.holds Tryd.pinned (OpenSpec.ofChange fnExactLeaderLineSpec)

/-- ITS FALSE NEIGHBOUR: 'it returns false'. Refute it at one input. -/
def fnExactLeaderLineWrong : ChangeSpec := { name := "fnExactLeaderLine", fn := fun _ => fun
  | [d1, d2, d3] => { results := [.lit (.bool false)], args := [d1, d2, d3] }
  | _ => none }
def FnExactLeaderLineWrongFalsely : Prop := fnExactLeaderLineRow.holds Tryd.pinned (OpenSpec.ofChange fnExactLeaderLineWrong)

/-- 'laws.FnExactBackSpaces': WHATEVER THE INPUT: true; the input reads as it did. -/
def fnExactBackSpacesSpec : ChangeSpec := { name := "fnExactBackSpaces", fn := fun _ => fun
  | [d] => { results := [.lit (.bool true)], args := [d] }
  | _ => none }
def fnExactBackSpacesRow : OpenClaim := { program := "ytalmpiffjghhkaadoor", sum := "196c4cb5867d55cd3830ccf26e06753380cf12b8bf2d6ec737efa3e1a5525da0", func := "loop.example/g01045/laws.FnExactBackSpaces", spec := "fnExactBackSpaces", inPlace := ["internal/bytealg.IndexByteString", "internal/bytealg.IndexString"], named := ["unicode/utf8.first", "unicode/utf8.acceptRanges", "internal/bytealg.MaxLen"], apart := false, laid := [("unicode/utf8.acceptRanges", laid_unicode_utf8_acceptRanges), ("unicode/utf8.first", laid_unicode_utf8_first)] }
def FnExactBackSpacesSaid : Prop := fnExactBackSpacesRow.holds Tryd.pinned (OpenSpec.ofChange fnExactBackSpacesSpec)

/-- ITS FALSE NEIGHBOUR: 'it returns false'. Refute it at one input. -/
def fnExactBackSpacesWrong : ChangeSpec := { name := "fnExactBackSpaces", fn := fun _ => fun
  | [d] => { results := [.lit (.bool false)], args := [d] }
  | _ => none }
def FnExactBackSpacesWrongFalsely : Prop := fnExactBackSpacesRow.holds Tryd.pinned (OpenSpec.ofChange fnExactBackSpacesWrong)

/-- 'laws.FnExactTitlePage': WHATEVER THE INPUT: true; the input reads as it did. -/
def fnExactTitlePageSpec : ChangeSpec := { name := "fnExactTitlePage", fn := fun _ => fun
  | [d1, d2, d3] => { results := [.lit (.bool true)], args := [d1, d2, d3] }
  | _ => none }
def fnExactTitlePageRow : OpenClaim := { program := "ytalmpiffjghhkaadoor", sum := "196c4cb5867d55cd3830ccf26e06753380cf12b8bf2d6ec737efa3e1a5525da0", func := "loop.example/g01045/laws.FnExactTitlePage", spec := "fnExactTitlePage", inPlace := ["internal/bytealg.IndexByteString", "internal/bytealg.IndexString", "internal/abi.NoEscape", "internal/bytealg.MakeNoZero"], unfollowed := true, recurses := true, named := ["unicode/utf8.first", "unicode/utf8.acceptRanges", "internal/bytealg.MaxLen"], apart := false, laid := [("unicode/utf8.acceptRanges", laid_unicode_utf8_acceptRanges), ("unicode/utf8.first", laid_unicode_utf8_first)] }
def FnExactTitlePageSaid : Prop := fnExactTitlePageRow.holds Tryd.pinned (OpenSpec.ofChange fnExactTitlePageSpec)

/-- ITS FALSE NEIGHBOUR: 'it returns false'. Refute it at one input. -/
def fnExactTitlePageWrong : ChangeSpec := { name := "fnExactTitlePage", fn := fun _ => fun
  | [d1, d2, d3] => { results := [.lit (.bool false)], args := [d1, d2, d3] }
  | _ => none }
def FnExactTitlePageWrongFalsely : Prop := fnExactTitlePageRow.holds Tryd.pinned (OpenSpec.ofChange fnExactTitlePageWrong)

/- THE SECOND FORM. 'bulk': how many values and letters a reading holds, each counted each time it is reached (what is shared counts as often as it is met; a slice's spare places count too). A statement '..UptoSaid' is the law's where the arguments, and the package variables that the reading takes, are together of bulk at most 1048576: NARROWER than '..Said'. Prove '..Said' where nothing that the law and all that it calls make is longer than what came in: it says more and counts as full. Else prove '..UptoSaid'. A law counts once. -/
mutual
def uptoBulk {H : Type} : DataW H → Nat
  | .lit (.string bytes) => bytes.length + 1
  | .lit _ => 1
  | .nil => 1
  | .ptr d => uptoBulk d + 1
  | .slice elems spare => uptoBulkAll elems + uptoBulkAll spare + 1
  | .agg parts => uptoBulkAll parts + 1
  | .iface _ d => uptoBulk d + 1
  | .map entries => uptoBulkEntries entries + 1
  | .held _ => 1
def uptoBulkAll {H : Type} : List (DataW H) → Nat
  | [] => 0
  | d :: r => uptoBulk d + uptoBulkAll r
def uptoBulkEntries {H : Type} : List (Lit × DataW H) → Nat
  | [] => 0
  | x :: r => uptoBulkEntry x + uptoBulkEntries r
def uptoBulkEntry {H : Type} : Lit × DataW H → Nat
  | (.string bytes, d) => bytes.length + uptoBulk d + 1
  | (_, d) => uptoBulk d + 1
 end
def uptoSmall : (H : Type) → List (DataW H) → Bool := fun _ ds => decide (uptoBulkAll ds ≤ 1048576)
def OpenSpec.upto (s : _root_.Go.ChangeSpec) : _root_.Go.OpenSpec := { _root_.Go.OpenSpec.ofChange s with cond := some uptoSmall }

/-- 'laws.FnExactCentreText', WHERE WHAT IT READS IS OF BULK AT MOST 1048576: true; the input reads as it did. -/
def fnExactCentreTextUptoRow : OpenClaim := { program := "ytalmpiffjghhkaadoor", sum := "196c4cb5867d55cd3830ccf26e06753380cf12b8bf2d6ec737efa3e1a5525da0", func := "loop.example/g01045/laws.FnExactCentreText", spec := "fnExactCentreText", inPlace := ["internal/bytealg.IndexByteString", "internal/bytealg.IndexString", "internal/abi.NoEscape", "internal/bytealg.MakeNoZero"], named := ["unicode/utf8.first", "unicode/utf8.acceptRanges", "internal/bytealg.MaxLen"], apart := false, laid := [("unicode/utf8.acceptRanges", laid_unicode_utf8_acceptRanges), ("unicode/utf8.first", laid_unicode_utf8_first)], narrowed := true }
def FnExactCentreTextUptoSaid : Prop := fnExactCentreTextUptoRow.holds Tryd.pinned (OpenSpec.upto fnExactCentreTextSpec)

/-- 'laws.FnExactRightText', WHERE WHAT IT READS IS OF BULK AT MOST 1048576: true; the input reads as it did. -/
def fnExactRightTextUptoRow : OpenClaim := { program := "ytalmpiffjghhkaadoor", sum := "196c4cb5867d55cd3830ccf26e06753380cf12b8bf2d6ec737efa3e1a5525da0", func := "loop.example/g01045/laws.FnExactRightText", spec := "fnExactRightText", inPlace := ["internal/bytealg.IndexByteString", "internal/bytealg.IndexString", "internal/abi.NoEscape", "internal/bytealg.MakeNoZero"], named := ["unicode/utf8.first", "unicode/utf8.acceptRanges", "internal/bytealg.MaxLen"], apart := false, laid := [("unicode/utf8.acceptRanges", laid_unicode_utf8_acceptRanges), ("unicode/utf8.first", laid_unicode_utf8_first)], narrowed := true }
def FnExactRightTextUptoSaid : Prop := fnExactRightTextUptoRow.holds Tryd.pinned (OpenSpec.upto fnExactRightTextSpec)

/-- 'laws.FnExactSpreadText', WHERE WHAT IT READS IS OF BULK AT MOST 1048576: true; the input reads as it did. -/
def fnExactSpreadTextUptoRow : OpenClaim := { program := "ytalmpiffjghhkaadoor", sum := "196c4cb5867d55cd3830ccf26e06753380cf12b8bf2d6ec737efa3e1a5525da0", func := "loop.example/g01045/laws.FnExactSpreadText", spec := "fnExactSpreadText", inPlace := ["internal/bytealg.IndexByteString", "internal/bytealg.IndexString", "internal/abi.NoEscape"], named := ["unicode/utf8.first", "unicode/utf8.acceptRanges", "internal/bytealg.MaxLen"], apart := false, laid := [("unicode/utf8.acceptRanges", laid_unicode_utf8_acceptRanges), ("unicode/utf8.first", laid_unicode_utf8_first)], narrowed := true }
def FnExactSpreadTextUptoSaid : Prop := fnExactSpreadTextUptoRow.holds Tryd.pinned (OpenSpec.upto fnExactSpreadTextSpec)

/-- 'laws.FnExactJoinSpread', WHERE WHAT IT READS IS OF BULK AT MOST 1048576: true; the input reads as it did. -/
def fnExactJoinSpreadUptoRow : OpenClaim := { program := "ytalmpiffjghhkaadoor", sum := "196c4cb5867d55cd3830ccf26e06753380cf12b8bf2d6ec737efa3e1a5525da0", func := "loop.example/g01045/laws.FnExactJoinSpread", spec := "fnExactJoinSpread", inPlace := ["internal/bytealg.IndexByteString", "internal/bytealg.IndexString", "internal/abi.NoEscape"], named := ["unicode/utf8.first", "unicode/utf8.acceptRanges", "internal/bytealg.MaxLen"], apart := false, laid := [("unicode/utf8.acceptRanges", laid_unicode_utf8_acceptRanges), ("unicode/utf8.first", laid_unicode_utf8_first)], narrowed := true }
def FnExactJoinSpreadUptoSaid : Prop := fnExactJoinSpreadUptoRow.holds Tryd.pinned (OpenSpec.upto fnExactJoinSpreadSpec)

/-- 'laws.FnExactUnderlineText', WHERE WHAT IT READS IS OF BULK AT MOST 1048576: true; the input reads as it did. -/
def fnExactUnderlineTextUptoRow : OpenClaim := { program := "ytalmpiffjghhkaadoor", sum := "196c4cb5867d55cd3830ccf26e06753380cf12b8bf2d6ec737efa3e1a5525da0", func := "loop.example/g01045/laws.FnExactUnderlineText", spec := "fnExactUnderlineText", inPlace := ["internal/bytealg.IndexByteString", "internal/bytealg.IndexString"], named := ["unicode/utf8.first", "unicode/utf8.acceptRanges", "internal/bytealg.MaxLen"], apart := false, laid := [("unicode/utf8.acceptRanges", laid_unicode_utf8_acceptRanges), ("unicode/utf8.first", laid_unicode_utf8_first)], narrowed := true }
def FnExactUnderlineTextUptoSaid : Prop := fnExactUnderlineTextUptoRow.holds Tryd.pinned (OpenSpec.upto fnExactUnderlineTextSpec)

/-- 'laws.FnExactLeaderLine', WHERE WHAT IT READS IS OF BULK AT MOST 1048576: true; the input reads as it did. -/
def fnExactLeaderLineUptoRow : OpenClaim := { program := "ytalmpiffjghhkaadoor", sum := "196c4cb5867d55cd3830ccf26e06753380cf12b8bf2d6ec737efa3e1a5525da0", func := "loop.example/g01045/laws.FnExactLeaderLine", spec := "fnExactLeaderLine", inPlace := ["internal/bytealg.IndexByteString", "internal/bytealg.IndexString", "internal/abi.NoEscape", "internal/bytealg.MakeNoZero"], named := ["unicode/utf8.first", "unicode/utf8.acceptRanges", "internal/bytealg.MaxLen"], apart := false, laid := [("unicode/utf8.acceptRanges", laid_unicode_utf8_acceptRanges), ("unicode/utf8.first", laid_unicode_utf8_first)], narrowed := true }
def FnExactLeaderLineUptoSaid : Prop := fnExactLeaderLineUptoRow.holds Tryd.pinned (OpenSpec.upto fnExactLeaderLineSpec)

/-- 'laws.FnExactBackSpaces', WHERE WHAT IT READS IS OF BULK AT MOST 1048576: true; the input reads as it did. -/
def fnExactBackSpacesUptoRow : OpenClaim := { program := "ytalmpiffjghhkaadoor", sum := "196c4cb5867d55cd3830ccf26e06753380cf12b8bf2d6ec737efa3e1a5525da0", func := "loop.example/g01045/laws.FnExactBackSpaces", spec := "fnExactBackSpaces", inPlace := ["internal/bytealg.IndexByteString", "internal/bytealg.IndexString"], named := ["unicode/utf8.first", "unicode/utf8.acceptRanges", "internal/bytealg.MaxLen"], apart := false, laid := [("unicode/utf8.acceptRanges", laid_unicode_utf8_acceptRanges), ("unicode/utf8.first", laid_unicode_utf8_first)], narrowed := true }
def FnExactBackSpacesUptoSaid : Prop := fnExactBackSpacesUptoRow.holds Tryd.pinned (OpenSpec.upto fnExactBackSpacesSpec)

/-- 'laws.FnExactTitlePage', WHERE WHAT IT READS IS OF BULK AT MOST 1048576: true; the input reads as it did. -/
def fnExactTitlePageUptoRow : OpenClaim := { program := "ytalmpiffjghhkaadoor", sum := "196c4cb5867d55cd3830ccf26e06753380cf12b8bf2d6ec737efa3e1a5525da0", func := "loop.example/g01045/laws.FnExactTitlePage", spec := "fnExactTitlePage", inPlace := ["internal/bytealg.IndexByteString", "internal/bytealg.IndexString", "internal/abi.NoEscape", "internal/bytealg.MakeNoZero"], unfollowed := true, recurses := true, named := ["unicode/utf8.first", "unicode/utf8.acceptRanges", "internal/bytealg.MaxLen"], apart := false, laid := [("unicode/utf8.acceptRanges", laid_unicode_utf8_acceptRanges), ("unicode/utf8.first", laid_unicode_utf8_first)], narrowed := true }
def FnExactTitlePageUptoSaid : Prop := fnExactTitlePageUptoRow.holds Tryd.pinned (OpenSpec.upto fnExactTitlePageSpec)

end Rows
end Go.Proofs.YtalmpiffjghhkaaDoor
