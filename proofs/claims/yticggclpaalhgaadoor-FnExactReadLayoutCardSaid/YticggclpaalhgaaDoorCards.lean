/-
  DERIVED. GIVEN WITH THE SEED: THE CARDS: each row of YticggclpaalhgaaDoorRows.lean that lists a variable, with what it lists TIED to the program's text (the seventh form; the later family's looks); each row that meets fmt, with fmt's text TOLD by the authors' own Lean function (tested against real Go, not proved from fmt's source: count such statements apart). THE CARD IS WHAT COUNTS. Prove the row's statement (the work); the ties are given (YticggclpaalhgaaDoorTie.lean); close each card by the builder's one call (the guide's Derived/Test/ToyasCard.lean, 'card_holds'). Laid BY PROGRAM, IN A SANDBOX (cutbox-door.mjs). By AI agents, Wed Nov 11 2026. No macro, syntax, notation, axiom, sorry.
-/
import Derived.Test.YticggclpaalhgaaDoorRows
import GoSem.ClaimSeven
namespace Go.Proofs.YticggclpaalhgaaDoor
namespace Rows

/-- THE TIED CARD OF 'laws.FnExactReadLayout'. -/
def fnExactReadLayoutCard : Claim7 := { stood := { row := fnExactReadLayoutRow, standIns := [], harness := (true, "ea17198dbf72d978149c06fb24a7c6aca6dc7ce0e82900f5e1d36facc56a23bc"), looks := false }, kinds := [], alts := [], laidByText := true, laidKinds := [.data, .pinned], laidTests := true, laidLooks := .later }
def FnExactReadLayoutCardSaid : Prop := Claim7.holds Tryd.pinned (.plain (OpenSpec.ofChange fnExactReadLayoutSpec)) fnExactReadLayoutCard

/-- THE SECOND FORM's CARD OF 'laws.FnExactReadLayout'. -/
def fnExactReadLayoutUptoCard : Claim7 := { stood := { row := fnExactReadLayoutUptoRow, standIns := [], harness := (true, "ea17198dbf72d978149c06fb24a7c6aca6dc7ce0e82900f5e1d36facc56a23bc"), looks := false }, kinds := [], alts := [], laidByText := true, laidKinds := [.data, .pinned], laidTests := true, laidLooks := .later }
def FnExactReadLayoutUptoCardSaid : Prop := Claim7.holds Tryd.pinned (.plain (OpenSpec.upto fnExactReadLayoutSpec)) fnExactReadLayoutUptoCard
end Rows
end Go.Proofs.YticggclpaalhgaaDoor
