/-
  No cell of these rows narrows 'for every input' (looked for: loops, veiled, ifaces, maps, wideKeys, modest, calm, conditions, laid).
  DERIVED. THE GIVEN ROWS OF THIS SEAT. 3 by the template 'for every input the law returns true; each argument reads behind the call as it read before'; 0 by the template 'total and deterministic' (their statements: YtalmpiffjghhkaaTotals.lean).
  GIVEN WITH THE SEED: the statements are not yours to turn. If you find one false, say at which input.
  Laid BY PROGRAM, IN A SANDBOX (cutbox-rows.mjs): the forced cells as the released guide's own fill.sh prints them over the translation 6b79eecaa796dfaf… (all of the seat's roots in one cut). By AI agents, Wed Nov 11 2026. No macro, syntax, notation, axiom, sorry.
-/
import Derived.Test.YtalmpiffjghhkaaChecked
import GoSem.Claim
import GoSem.ClaimJoined
import GoSem.ClaimMapViews
import Derived.JoinedTies
import Derived.KernelRfl
namespace Go.Proofs.Ytalmpiffjghhkaa
/- THE CELL 'sum', in the pinned program and in every row, IS THE sha256 OF THE DUMP (.gsa) THAT YtalmpiffjghhkaaProg.lean LOADS. Nothing in Lean hashes anything: it is a label: what it is worth is what the hold of that sum in a sandbox is worth. -/
noncomputable def Try.pinned : Pinned := { name := "ytalmpiffjghhkaa", sum := "6b79eecaa796dfafbdac404ec9351b54022a162db2cd25e023306e77ca74e624", checked := Try.checked }
namespace Rows
def none {H : Type} : Left H := { results := [], args := [] }

/-- 'laws.FnExactRuleLine': WHATEVER THE INPUT: true; the input reads as it did. -/
def fnExactRuleLineSpec : ChangeSpec := { name := "fnExactRuleLine", fn := fun _ => fun
  | [d1, d2] => { results := [.lit (.bool true)], args := [d1, d2] }
  | _ => none }
def fnExactRuleLineRow : OpenClaim := { program := "ytalmpiffjghhkaa", sum := "6b79eecaa796dfafbdac404ec9351b54022a162db2cd25e023306e77ca74e624", func := "loop.example/g01045/laws.FnExactRuleLine", spec := "fnExactRuleLine", inPlace := ["internal/abi.NoEscape", "internal/bytealg.MakeNoZero"], apart := false }
def FnExactRuleLineSaid : Prop := fnExactRuleLineRow.holds Try.pinned (OpenSpec.ofChange fnExactRuleLineSpec)

/-- ITS FALSE NEIGHBOUR: 'it returns false'. Refute it at one input. -/
def fnExactRuleLineWrong : ChangeSpec := { name := "fnExactRuleLine", fn := fun _ => fun
  | [d1, d2] => { results := [.lit (.bool false)], args := [d1, d2] }
  | _ => none }
def FnExactRuleLineWrongFalsely : Prop := fnExactRuleLineRow.holds Try.pinned (OpenSpec.ofChange fnExactRuleLineWrong)

/-- 'laws.FnExactBoxLines': WHATEVER THE INPUT: true; the input reads as it did. -/
def fnExactBoxLinesSpec : ChangeSpec := { name := "fnExactBoxLines", fn := fun _ => fun
  | [d] => { results := [.lit (.bool true)], args := [d] }
  | _ => none }
def fnExactBoxLinesRow : OpenClaim := { program := "ytalmpiffjghhkaa", sum := "6b79eecaa796dfafbdac404ec9351b54022a162db2cd25e023306e77ca74e624", func := "loop.example/g01045/laws.FnExactBoxLines", spec := "fnExactBoxLines", inPlace := ["internal/abi.NoEscape", "internal/bytealg.MakeNoZero"], unfollowed := true, recurses := true, apart := false }
def FnExactBoxLinesSaid : Prop := fnExactBoxLinesRow.holds Try.pinned (OpenSpec.ofChange fnExactBoxLinesSpec)

/-- ITS FALSE NEIGHBOUR: 'it returns false'. Refute it at one input. -/
def fnExactBoxLinesWrong : ChangeSpec := { name := "fnExactBoxLines", fn := fun _ => fun
  | [d] => { results := [.lit (.bool false)], args := [d] }
  | _ => none }
def FnExactBoxLinesWrongFalsely : Prop := fnExactBoxLinesRow.holds Try.pinned (OpenSpec.ofChange fnExactBoxLinesWrong)

/-- 'laws.FnExactCentreBlock': WHATEVER THE INPUT: true; the input reads as it did. -/
def fnExactCentreBlockSpec : ChangeSpec := { name := "fnExactCentreBlock", fn := fun _ => fun
  | [d1, d2] => { results := [.lit (.bool true)], args := [d1, d2] }
  | _ => none }
def fnExactCentreBlockRow : OpenClaim := { program := "ytalmpiffjghhkaa", sum := "6b79eecaa796dfafbdac404ec9351b54022a162db2cd25e023306e77ca74e624", func := "loop.example/g01045/laws.FnExactCentreBlock", spec := "fnExactCentreBlock", inPlace := ["internal/abi.NoEscape", "internal/bytealg.MakeNoZero"], unfollowed := true, recurses := true, apart := false }
def FnExactCentreBlockSaid : Prop := fnExactCentreBlockRow.holds Try.pinned (OpenSpec.ofChange fnExactCentreBlockSpec)

/-- ITS FALSE NEIGHBOUR: 'it returns false'. Refute it at one input. -/
def fnExactCentreBlockWrong : ChangeSpec := { name := "fnExactCentreBlock", fn := fun _ => fun
  | [d1, d2] => { results := [.lit (.bool false)], args := [d1, d2] }
  | _ => none }
def FnExactCentreBlockWrongFalsely : Prop := fnExactCentreBlockRow.holds Try.pinned (OpenSpec.ofChange fnExactCentreBlockWrong)

/- THE SECOND FORM. 'bulk': how many values and letters a reading holds, each counted each time it is reached (what is shared counts as often as it is met; a slice's spare places count too). A statement '..UptoSaid' is the law's where the arguments, and the package variables that the reading takes, are together of bulk at most 1048576: NARROWER than '..Said'. Prove '..Said' where nothing that the law and all that it calls make is longer than what came in: it says more and counts as full. Else prove '..UptoSaid'. A law counts once. -/
mutual
def uptoBulk {H : Type} : DataW H → Nat
  | .lit (.string bytes) => bytes.length + 1
  | .lit _ => 1
  | .nil => 1
  | .ptr d => uptoBulk d + 1
  | .slice elems spare => uptoBulkAll elems + uptoBulkAll spare + 1
  | .agg parts => uptoBulkAll parts + 1
  | .iface _ d => uptoBulk d + 1
  | .map entries => uptoBulkEntries entries + 1
  | .held _ => 1
def uptoBulkAll {H : Type} : List (DataW H) → Nat
  | [] => 0
  | d :: r => uptoBulk d + uptoBulkAll r
def uptoBulkEntries {H : Type} : List (Lit × DataW H) → Nat
  | [] => 0
  | x :: r => uptoBulkEntry x + uptoBulkEntries r
def uptoBulkEntry {H : Type} : Lit × DataW H → Nat
  | (.string bytes, d) => bytes.length + uptoBulk d + 1
  | (_, d) => uptoBulk d + 1
 end
def uptoSmall : (H : Type) → List (DataW H) → Bool := fun _ ds => decide (uptoBulkAll ds ≤ 1048576)
def OpenSpec.upto (s : _root_.Go.ChangeSpec) : _root_.Go.OpenSpec := { _root_.Go.OpenSpec.ofChange s with cond := some uptoSmall }

/-- 'laws.FnExactRuleLine', WHERE WHAT IT READS IS OF BULK AT MOST 1048576: true; the input reads as it did. -/
def fnExactRuleLineUptoRow : OpenClaim := { program := "ytalmpiffjghhkaa", sum := "6b79eecaa796dfafbdac404ec9351b54022a162db2cd25e023306e77ca74e624", func := "loop.example/g01045/laws.FnExactRuleLine", spec := "fnExactRuleLine", inPlace := ["internal/abi.NoEscape", "internal/bytealg.MakeNoZero"], apart := false, narrowed := true }
def FnExactRuleLineUptoSaid : Prop := fnExactRuleLineUptoRow.holds Try.pinned (OpenSpec.upto fnExactRuleLineSpec)

/-- 'laws.FnExactBoxLines', WHERE WHAT IT READS IS OF BULK AT MOST 1048576: true; the input reads as it did. -/
def fnExactBoxLinesUptoRow : OpenClaim := { program := "ytalmpiffjghhkaa", sum := "6b79eecaa796dfafbdac404ec9351b54022a162db2cd25e023306e77ca74e624", func := "loop.example/g01045/laws.FnExactBoxLines", spec := "fnExactBoxLines", inPlace := ["internal/abi.NoEscape", "internal/bytealg.MakeNoZero"], unfollowed := true, recurses := true, apart := false, narrowed := true }
def FnExactBoxLinesUptoSaid : Prop := fnExactBoxLinesUptoRow.holds Try.pinned (OpenSpec.upto fnExactBoxLinesSpec)

/-- 'laws.FnExactCentreBlock', WHERE WHAT IT READS IS OF BULK AT MOST 1048576: true; the input reads as it did. -/
def fnExactCentreBlockUptoRow : OpenClaim := { program := "ytalmpiffjghhkaa", sum := "6b79eecaa796dfafbdac404ec9351b54022a162db2cd25e023306e77ca74e624", func := "loop.example/g01045/laws.FnExactCentreBlock", spec := "fnExactCentreBlock", inPlace := ["internal/abi.NoEscape", "internal/bytealg.MakeNoZero"], unfollowed := true, recurses := true, apart := false, narrowed := true }
def FnExactCentreBlockUptoSaid : Prop := fnExactCentreBlockUptoRow.holds Try.pinned (OpenSpec.upto fnExactCentreBlockSpec)

end Rows
end Go.Proofs.Ytalmpiffjghhkaa
