/-
  No cell of these rows narrows 'for every input' (looked for: loops, veiled, ifaces, maps, wideKeys, modest, calm, conditions, laid).
  DERIVED. THE GIVEN ROWS OF THIS SEAT. 10 by the template 'for every input the law returns true; each argument reads behind the call as it read before'; 0 by the template 'total and deterministic' (their statements: YtiekomdpfmadgaaTotals.lean).
  GIVEN WITH THE SEED: the statements are not yours to turn. If you find one false, say at which input.
  Laid BY PROGRAM, IN A SANDBOX (cutbox-rows.mjs): the forced cells as the released guide's own fill.sh prints them over the translation c95bf85205443aff… (all of the seat's roots in one cut). By AI agents, Wed Nov 11 2026. No macro, syntax, notation, axiom, sorry.
-/
import Derived.Test.YtiekomdpfmadgaaChecked
import GoSem.Claim
import GoSem.ClaimJoined
import GoSem.ClaimMapViews
import Derived.JoinedTies
import Derived.KernelRfl
namespace Go.Proofs.Ytiekomdpfmadgaa
/- THE CELL 'sum', in the pinned program and in every row, IS THE sha256 OF THE DUMP (.gsa) THAT YtiekomdpfmadgaaProg.lean LOADS. Nothing in Lean hashes anything: it is a label: what it is worth is what the hold of that sum in a sandbox is worth. -/
noncomputable def Try.pinned : Pinned := { name := "ytiekomdpfmadgaa", sum := "c95bf85205443afffd5b1e104868a4c82f84e17d1b94c7862ff7b949306e579f", checked := Try.checked }
namespace Rows
def none {H : Type} : Left H := { results := [], args := [] }

/-- 'laws.FnExactValidCarriage': WHATEVER THE INPUT: true; the input reads as it did. -/
def fnExactValidCarriageSpec : ChangeSpec := { name := "fnExactValidCarriage", fn := fun _ => fun
  | [d] => { results := [.lit (.bool true)], args := [d] }
  | _ => none }
def fnExactValidCarriageRow : OpenClaim := { program := "ytiekomdpfmadgaa", sum := "c95bf85205443afffd5b1e104868a4c82f84e17d1b94c7862ff7b949306e579f", func := "loop.example/g01045/laws.FnExactValidCarriage", spec := "fnExactValidCarriage", apart := false }
def FnExactValidCarriageSaid : Prop := fnExactValidCarriageRow.holds Try.pinned (OpenSpec.ofChange fnExactValidCarriageSpec)

/-- ITS FALSE NEIGHBOUR: 'it returns false'. Refute it at one input. -/
def fnExactValidCarriageWrong : ChangeSpec := { name := "fnExactValidCarriage", fn := fun _ => fun
  | [d] => { results := [.lit (.bool false)], args := [d] }
  | _ => none }
def FnExactValidCarriageWrongFalsely : Prop := fnExactValidCarriageRow.holds Try.pinned (OpenSpec.ofChange fnExactValidCarriageWrong)

/-- 'laws.FnExactValidActs': WHATEVER THE INPUT: true; the input reads as it did. -/
def fnExactValidActsSpec : ChangeSpec := { name := "fnExactValidActs", fn := fun _ => fun
  | [d] => { results := [.lit (.bool true)], args := [d] }
  | _ => none }
def fnExactValidActsRow : OpenClaim := { program := "ytiekomdpfmadgaa", sum := "c95bf85205443afffd5b1e104868a4c82f84e17d1b94c7862ff7b949306e579f", func := "loop.example/g01045/laws.FnExactValidActs", spec := "fnExactValidActs", unfollowed := true, recurses := true, apart := false }
def FnExactValidActsSaid : Prop := fnExactValidActsRow.holds Try.pinned (OpenSpec.ofChange fnExactValidActsSpec)

/-- ITS FALSE NEIGHBOUR: 'it returns false'. Refute it at one input. -/
def fnExactValidActsWrong : ChangeSpec := { name := "fnExactValidActs", fn := fun _ => fun
  | [d] => { results := [.lit (.bool false)], args := [d] }
  | _ => none }
def FnExactValidActsWrongFalsely : Prop := fnExactValidActsRow.holds Try.pinned (OpenSpec.ofChange fnExactValidActsWrong)

/-- 'laws.FnExactSameStruck': WHATEVER THE INPUT: true; the input reads as it did. -/
def fnExactSameStruckSpec : ChangeSpec := { name := "fnExactSameStruck", fn := fun _ => fun
  | [d1, d2] => { results := [.lit (.bool true)], args := [d1, d2] }
  | _ => none }
def fnExactSameStruckRow : OpenClaim := { program := "ytiekomdpfmadgaa", sum := "c95bf85205443afffd5b1e104868a4c82f84e17d1b94c7862ff7b949306e579f", func := "loop.example/g01045/laws.FnExactSameStruck", spec := "fnExactSameStruck", apart := false }
def FnExactSameStruckSaid : Prop := fnExactSameStruckRow.holds Try.pinned (OpenSpec.ofChange fnExactSameStruckSpec)

/-- ITS FALSE NEIGHBOUR: 'it returns false'. Refute it at one input. -/
def fnExactSameStruckWrong : ChangeSpec := { name := "fnExactSameStruck", fn := fun _ => fun
  | [d1, d2] => { results := [.lit (.bool false)], args := [d1, d2] }
  | _ => none }
def FnExactSameStruckWrongFalsely : Prop := fnExactSameStruckRow.holds Try.pinned (OpenSpec.ofChange fnExactSameStruckWrong)

/-- 'laws.FnExactTypeActs': WHATEVER THE INPUT: true; the input reads as it did. -/
def fnExactTypeActsSpec : ChangeSpec := { name := "fnExactTypeActs", fn := fun _ => fun
  | [d1, d2] => { results := [.lit (.bool true)], args := [d1, d2] }
  | _ => none }
def fnExactTypeActsRow : OpenClaim := { program := "ytiekomdpfmadgaa", sum := "c95bf85205443afffd5b1e104868a4c82f84e17d1b94c7862ff7b949306e579f", func := "loop.example/g01045/laws.FnExactTypeActs", spec := "fnExactTypeActs", unfollowed := true, recurses := true, apart := false }
def FnExactTypeActsSaid : Prop := fnExactTypeActsRow.holds Try.pinned (OpenSpec.ofChange fnExactTypeActsSpec)

/-- ITS FALSE NEIGHBOUR: 'it returns false'. Refute it at one input. -/
def fnExactTypeActsWrong : ChangeSpec := { name := "fnExactTypeActs", fn := fun _ => fun
  | [d1, d2] => { results := [.lit (.bool false)], args := [d1, d2] }
  | _ => none }
def FnExactTypeActsWrongFalsely : Prop := fnExactTypeActsRow.holds Try.pinned (OpenSpec.ofChange fnExactTypeActsWrong)

/-- 'laws.FnExactBellsOf': WHATEVER THE INPUT: true; the input reads as it did. -/
def fnExactBellsOfSpec : ChangeSpec := { name := "fnExactBellsOf", fn := fun _ => fun
  | [d1, d2] => { results := [.lit (.bool true)], args := [d1, d2] }
  | _ => none }
def fnExactBellsOfRow : OpenClaim := { program := "ytiekomdpfmadgaa", sum := "c95bf85205443afffd5b1e104868a4c82f84e17d1b94c7862ff7b949306e579f", func := "loop.example/g01045/laws.FnExactBellsOf", spec := "fnExactBellsOf", unfollowed := true, recurses := true, apart := false }
def FnExactBellsOfSaid : Prop := fnExactBellsOfRow.holds Try.pinned (OpenSpec.ofChange fnExactBellsOfSpec)

/-- ITS FALSE NEIGHBOUR: 'it returns false'. Refute it at one input. -/
def fnExactBellsOfWrong : ChangeSpec := { name := "fnExactBellsOf", fn := fun _ => fun
  | [d1, d2] => { results := [.lit (.bool false)], args := [d1, d2] }
  | _ => none }
def FnExactBellsOfWrongFalsely : Prop := fnExactBellsOfRow.holds Try.pinned (OpenSpec.ofChange fnExactBellsOfWrong)

/-- 'laws.FnExactLockedAt': WHATEVER THE INPUT: true; the input reads as it did. -/
def fnExactLockedAtSpec : ChangeSpec := { name := "fnExactLockedAt", fn := fun _ => fun
  | [d1, d2] => { results := [.lit (.bool true)], args := [d1, d2] }
  | _ => none }
def fnExactLockedAtRow : OpenClaim := { program := "ytiekomdpfmadgaa", sum := "c95bf85205443afffd5b1e104868a4c82f84e17d1b94c7862ff7b949306e579f", func := "loop.example/g01045/laws.FnExactLockedAt", spec := "fnExactLockedAt", unfollowed := true, recurses := true, apart := false }
def FnExactLockedAtSaid : Prop := fnExactLockedAtRow.holds Try.pinned (OpenSpec.ofChange fnExactLockedAtSpec)

/-- ITS FALSE NEIGHBOUR: 'it returns false'. Refute it at one input. -/
def fnExactLockedAtWrong : ChangeSpec := { name := "fnExactLockedAt", fn := fun _ => fun
  | [d1, d2] => { results := [.lit (.bool false)], args := [d1, d2] }
  | _ => none }
def FnExactLockedAtWrongFalsely : Prop := fnExactLockedAtRow.holds Try.pinned (OpenSpec.ofChange fnExactLockedAtWrong)

/-- 'laws.FnExactOvertypedPlaces': WHATEVER THE INPUT: true; the input reads as it did. -/
def fnExactOvertypedPlacesSpec : ChangeSpec := { name := "fnExactOvertypedPlaces", fn := fun _ => fun
  | [d] => { results := [.lit (.bool true)], args := [d] }
  | _ => none }
def fnExactOvertypedPlacesRow : OpenClaim := { program := "ytiekomdpfmadgaa", sum := "c95bf85205443afffd5b1e104868a4c82f84e17d1b94c7862ff7b949306e579f", func := "loop.example/g01045/laws.FnExactOvertypedPlaces", spec := "fnExactOvertypedPlaces", unfollowed := true, recurses := true, apart := false }
def FnExactOvertypedPlacesSaid : Prop := fnExactOvertypedPlacesRow.holds Try.pinned (OpenSpec.ofChange fnExactOvertypedPlacesSpec)

/-- ITS FALSE NEIGHBOUR: 'it returns false'. Refute it at one input. -/
def fnExactOvertypedPlacesWrong : ChangeSpec := { name := "fnExactOvertypedPlaces", fn := fun _ => fun
  | [d] => { results := [.lit (.bool false)], args := [d] }
  | _ => none }
def FnExactOvertypedPlacesWrongFalsely : Prop := fnExactOvertypedPlacesRow.holds Try.pinned (OpenSpec.ofChange fnExactOvertypedPlacesWrong)

/-- 'laws.FnExactLineOf': WHATEVER THE INPUT: true; the input reads as it did. -/
def fnExactLineOfSpec : ChangeSpec := { name := "fnExactLineOf", fn := fun _ => fun
  | [d1, d2] => { results := [.lit (.bool true)], args := [d1, d2] }
  | _ => none }
def fnExactLineOfRow : OpenClaim := { program := "ytiekomdpfmadgaa", sum := "c95bf85205443afffd5b1e104868a4c82f84e17d1b94c7862ff7b949306e579f", func := "loop.example/g01045/laws.FnExactLineOf", spec := "fnExactLineOf", unfollowed := true, recurses := true, apart := false }
def FnExactLineOfSaid : Prop := fnExactLineOfRow.holds Try.pinned (OpenSpec.ofChange fnExactLineOfSpec)

/-- ITS FALSE NEIGHBOUR: 'it returns false'. Refute it at one input. -/
def fnExactLineOfWrong : ChangeSpec := { name := "fnExactLineOf", fn := fun _ => fun
  | [d1, d2] => { results := [.lit (.bool false)], args := [d1, d2] }
  | _ => none }
def FnExactLineOfWrongFalsely : Prop := fnExactLineOfRow.holds Try.pinned (OpenSpec.ofChange fnExactLineOfWrong)

/-- 'laws.FnExactHalfShifted': WHATEVER THE INPUT: true; the input reads as it did. -/
def fnExactHalfShiftedSpec : ChangeSpec := { name := "fnExactHalfShifted", fn := fun _ => fun
  | [d1, d2] => { results := [.lit (.bool true)], args := [d1, d2] }
  | _ => none }
def fnExactHalfShiftedRow : OpenClaim := { program := "ytiekomdpfmadgaa", sum := "c95bf85205443afffd5b1e104868a4c82f84e17d1b94c7862ff7b949306e579f", func := "loop.example/g01045/laws.FnExactHalfShifted", spec := "fnExactHalfShifted", unfollowed := true, recurses := true, apart := false }
def FnExactHalfShiftedSaid : Prop := fnExactHalfShiftedRow.holds Try.pinned (OpenSpec.ofChange fnExactHalfShiftedSpec)

/-- ITS FALSE NEIGHBOUR: 'it returns false'. Refute it at one input. -/
def fnExactHalfShiftedWrong : ChangeSpec := { name := "fnExactHalfShifted", fn := fun _ => fun
  | [d1, d2] => { results := [.lit (.bool false)], args := [d1, d2] }
  | _ => none }
def FnExactHalfShiftedWrongFalsely : Prop := fnExactHalfShiftedRow.holds Try.pinned (OpenSpec.ofChange fnExactHalfShiftedWrong)

/-- 'laws.FnExactActText': WHATEVER THE INPUT: true; the input reads as it did. -/
def fnExactActTextSpec : ChangeSpec := { name := "fnExactActText", fn := fun _ => fun
  | [d] => { results := [.lit (.bool true)], args := [d] }
  | _ => none }
def fnExactActTextRow : OpenClaim := { program := "ytiekomdpfmadgaa", sum := "c95bf85205443afffd5b1e104868a4c82f84e17d1b94c7862ff7b949306e579f", func := "loop.example/g01045/laws.FnExactActText", spec := "fnExactActText", inPlace := ["internal/abi.NoEscape", "internal/bytealg.MakeNoZero"], unfollowed := true, recurses := true, apart := false }
def FnExactActTextSaid : Prop := fnExactActTextRow.holds Try.pinned (OpenSpec.ofChange fnExactActTextSpec)

/-- ITS FALSE NEIGHBOUR: 'it returns false'. Refute it at one input. -/
def fnExactActTextWrong : ChangeSpec := { name := "fnExactActText", fn := fun _ => fun
  | [d] => { results := [.lit (.bool false)], args := [d] }
  | _ => none }
def FnExactActTextWrongFalsely : Prop := fnExactActTextRow.holds Try.pinned (OpenSpec.ofChange fnExactActTextWrong)

/- THE SECOND FORM. 'bulk': how many values and letters a reading holds, each counted each time it is reached (what is shared counts as often as it is met; a slice's spare places count too). A statement '..UptoSaid' is the law's where the arguments, and the package variables that the reading takes, are together of bulk at most 1048576: NARROWER than '..Said'. Prove '..Said' where nothing that the law and all that it calls make is longer than what came in: it says more and counts as full. Else prove '..UptoSaid'. A law counts once. -/
mutual
def uptoBulk {H : Type} : DataW H → Nat
  | .lit (.string bytes) => bytes.length + 1
  | .lit _ => 1
  | .nil => 1
  | .ptr d => uptoBulk d + 1
  | .slice elems spare => uptoBulkAll elems + uptoBulkAll spare + 1
  | .agg parts => uptoBulkAll parts + 1
  | .iface _ d => uptoBulk d + 1
  | .map entries => uptoBulkEntries entries + 1
  | .held _ => 1
def uptoBulkAll {H : Type} : List (DataW H) → Nat
  | [] => 0
  | d :: r => uptoBulk d + uptoBulkAll r
def uptoBulkEntries {H : Type} : List (Lit × DataW H) → Nat
  | [] => 0
  | x :: r => uptoBulkEntry x + uptoBulkEntries r
def uptoBulkEntry {H : Type} : Lit × DataW H → Nat
  | (.string bytes, d) => bytes.length + uptoBulk d + 1
  | (_, d) => uptoBulk d + 1
 end
def uptoSmall : (H : Type) → List (DataW H) → Bool := fun _ ds => decide (uptoBulkAll ds ≤ 1048576)
def OpenSpec.upto (s : _root_.Go.ChangeSpec) : _root_.Go.OpenSpec := { _root_.Go.OpenSpec.ofChange s with cond := some uptoSmall }

/-- 'laws.FnExactValidCarriage', WHERE WHAT IT READS IS OF BULK AT MOST 1048576: true; the input reads as it did. -/
def fnExactValidCarriageUptoRow : OpenClaim := { program := "ytiekomdpfmadgaa", sum := "c95bf85205443afffd5b1e104868a4c82f84e17d1b94c7862ff7b949306e579f", func := "loop.example/g01045/laws.FnExactValidCarriage", spec := "fnExactValidCarriage", apart := false, narrowed := true }
def FnExactValidCarriageUptoSaid : Prop := fnExactValidCarriageUptoRow.holds Try.pinned (OpenSpec.upto fnExactValidCarriageSpec)

/-- 'laws.FnExactValidActs', WHERE WHAT IT READS IS OF BULK AT MOST 1048576: true; the input reads as it did. -/
def fnExactValidActsUptoRow : OpenClaim := { program := "ytiekomdpfmadgaa", sum := "c95bf85205443afffd5b1e104868a4c82f84e17d1b94c7862ff7b949306e579f", func := "loop.example/g01045/laws.FnExactValidActs", spec := "fnExactValidActs", unfollowed := true, recurses := true, apart := false, narrowed := true }
def FnExactValidActsUptoSaid : Prop := fnExactValidActsUptoRow.holds Try.pinned (OpenSpec.upto fnExactValidActsSpec)

/-- 'laws.FnExactSameStruck', WHERE WHAT IT READS IS OF BULK AT MOST 1048576: true; the input reads as it did. -/
def fnExactSameStruckUptoRow : OpenClaim := { program := "ytiekomdpfmadgaa", sum := "c95bf85205443afffd5b1e104868a4c82f84e17d1b94c7862ff7b949306e579f", func := "loop.example/g01045/laws.FnExactSameStruck", spec := "fnExactSameStruck", apart := false, narrowed := true }
def FnExactSameStruckUptoSaid : Prop := fnExactSameStruckUptoRow.holds Try.pinned (OpenSpec.upto fnExactSameStruckSpec)

/-- 'laws.FnExactTypeActs', WHERE WHAT IT READS IS OF BULK AT MOST 1048576: true; the input reads as it did. -/
def fnExactTypeActsUptoRow : OpenClaim := { program := "ytiekomdpfmadgaa", sum := "c95bf85205443afffd5b1e104868a4c82f84e17d1b94c7862ff7b949306e579f", func := "loop.example/g01045/laws.FnExactTypeActs", spec := "fnExactTypeActs", unfollowed := true, recurses := true, apart := false, narrowed := true }
def FnExactTypeActsUptoSaid : Prop := fnExactTypeActsUptoRow.holds Try.pinned (OpenSpec.upto fnExactTypeActsSpec)

/-- 'laws.FnExactBellsOf', WHERE WHAT IT READS IS OF BULK AT MOST 1048576: true; the input reads as it did. -/
def fnExactBellsOfUptoRow : OpenClaim := { program := "ytiekomdpfmadgaa", sum := "c95bf85205443afffd5b1e104868a4c82f84e17d1b94c7862ff7b949306e579f", func := "loop.example/g01045/laws.FnExactBellsOf", spec := "fnExactBellsOf", unfollowed := true, recurses := true, apart := false, narrowed := true }
def FnExactBellsOfUptoSaid : Prop := fnExactBellsOfUptoRow.holds Try.pinned (OpenSpec.upto fnExactBellsOfSpec)

/-- 'laws.FnExactLockedAt', WHERE WHAT IT READS IS OF BULK AT MOST 1048576: true; the input reads as it did. -/
def fnExactLockedAtUptoRow : OpenClaim := { program := "ytiekomdpfmadgaa", sum := "c95bf85205443afffd5b1e104868a4c82f84e17d1b94c7862ff7b949306e579f", func := "loop.example/g01045/laws.FnExactLockedAt", spec := "fnExactLockedAt", unfollowed := true, recurses := true, apart := false, narrowed := true }
def FnExactLockedAtUptoSaid : Prop := fnExactLockedAtUptoRow.holds Try.pinned (OpenSpec.upto fnExactLockedAtSpec)

/-- 'laws.FnExactOvertypedPlaces', WHERE WHAT IT READS IS OF BULK AT MOST 1048576: true; the input reads as it did. -/
def fnExactOvertypedPlacesUptoRow : OpenClaim := { program := "ytiekomdpfmadgaa", sum := "c95bf85205443afffd5b1e104868a4c82f84e17d1b94c7862ff7b949306e579f", func := "loop.example/g01045/laws.FnExactOvertypedPlaces", spec := "fnExactOvertypedPlaces", unfollowed := true, recurses := true, apart := false, narrowed := true }
def FnExactOvertypedPlacesUptoSaid : Prop := fnExactOvertypedPlacesUptoRow.holds Try.pinned (OpenSpec.upto fnExactOvertypedPlacesSpec)

/-- 'laws.FnExactLineOf', WHERE WHAT IT READS IS OF BULK AT MOST 1048576: true; the input reads as it did. -/
def fnExactLineOfUptoRow : OpenClaim := { program := "ytiekomdpfmadgaa", sum := "c95bf85205443afffd5b1e104868a4c82f84e17d1b94c7862ff7b949306e579f", func := "loop.example/g01045/laws.FnExactLineOf", spec := "fnExactLineOf", unfollowed := true, recurses := true, apart := false, narrowed := true }
def FnExactLineOfUptoSaid : Prop := fnExactLineOfUptoRow.holds Try.pinned (OpenSpec.upto fnExactLineOfSpec)

/-- 'laws.FnExactHalfShifted', WHERE WHAT IT READS IS OF BULK AT MOST 1048576: true; the input reads as it did. -/
def fnExactHalfShiftedUptoRow : OpenClaim := { program := "ytiekomdpfmadgaa", sum := "c95bf85205443afffd5b1e104868a4c82f84e17d1b94c7862ff7b949306e579f", func := "loop.example/g01045/laws.FnExactHalfShifted", spec := "fnExactHalfShifted", unfollowed := true, recurses := true, apart := false, narrowed := true }
def FnExactHalfShiftedUptoSaid : Prop := fnExactHalfShiftedUptoRow.holds Try.pinned (OpenSpec.upto fnExactHalfShiftedSpec)

/-- 'laws.FnExactActText', WHERE WHAT IT READS IS OF BULK AT MOST 1048576: true; the input reads as it did. -/
def fnExactActTextUptoRow : OpenClaim := { program := "ytiekomdpfmadgaa", sum := "c95bf85205443afffd5b1e104868a4c82f84e17d1b94c7862ff7b949306e579f", func := "loop.example/g01045/laws.FnExactActText", spec := "fnExactActText", inPlace := ["internal/abi.NoEscape", "internal/bytealg.MakeNoZero"], unfollowed := true, recurses := true, apart := false, narrowed := true }
def FnExactActTextUptoSaid : Prop := fnExactActTextUptoRow.holds Try.pinned (OpenSpec.upto fnExactActTextSpec)

end Rows
end Go.Proofs.Ytiekomdpfmadgaa
