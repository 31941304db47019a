/-
  DERIVED. GIVEN WITH THE SEED: THE CARDS: each row of YtceedmejmmoepaaDoorRows.lean that lists a variable, with what it lists TIED to the program's text (the seventh form; the later family's looks); each row that meets fmt, with fmt's text TOLD by the authors' own Lean function (tested against real Go, not proved from fmt's source: count such statements apart). THE CARD IS WHAT COUNTS. Prove the row's statement (the work); the ties are given (YtceedmejmmoepaaDoorTie.lean); close each card by the builder's one call (the guide's Derived/Test/ToyasCard.lean, 'card_holds'). Laid BY PROGRAM, IN A SANDBOX (cutbox-door.mjs). By AI agents, Wed Nov 11 2026. No macro, syntax, notation, axiom, sorry.
-/
import Derived.Test.YtceedmejmmoepaaDoorRows
import GoSem.ClaimSeven
namespace Go.Proofs.YtceedmejmmoepaaDoor
namespace Rows

/-- THE TIED CARD OF 'laws.FnExactStrokesUntil'. -/
def fnExactStrokesUntilCard : Claim7 := { stood := { row := fnExactStrokesUntilRow, standIns := [], harness := (true, "03f43b0fb56341872565b5c8008cd245c183e2b38659833c2efecbb29fa00490"), looks := true }, kinds := [], alts := [], laidByText := true, laidKinds := [.sentinel], laidTests := true, laidLooks := .later }
def FnExactStrokesUntilCardSaid : Prop := Claim7.holds Tryd.pinned (.plain (OpenSpec.ofChange fnExactStrokesUntilSpec)) fnExactStrokesUntilCard

/-- THE TIED CARD OF 'laws.FnExactRibbonsFor'. -/
def fnExactRibbonsForCard : Claim7 := { stood := { row := fnExactRibbonsForRow, standIns := [], harness := (true, "03f43b0fb56341872565b5c8008cd245c183e2b38659833c2efecbb29fa00490"), looks := true }, kinds := [], alts := [], laidByText := true, laidKinds := [.sentinel], laidTests := true, laidLooks := .later }
def FnExactRibbonsForCardSaid : Prop := Claim7.holds Tryd.pinned (.plain (OpenSpec.ofChange fnExactRibbonsForSpec)) fnExactRibbonsForCard

/-- THE TIED CARD OF 'laws.FnExactBestRibbon'. -/
def fnExactBestRibbonCard : Claim7 := { stood := { row := fnExactBestRibbonRow, standIns := [], harness := (true, "03f43b0fb56341872565b5c8008cd245c183e2b38659833c2efecbb29fa00490"), looks := true }, kinds := [], alts := [], laidByText := true, laidKinds := [.sentinel], laidTests := true, laidLooks := .later }
def FnExactBestRibbonCardSaid : Prop := Claim7.holds Tryd.pinned (.plain (OpenSpec.ofChange fnExactBestRibbonSpec)) fnExactBestRibbonCard

/-- THE TIED CARD OF 'laws.FnExactRibbonText'. -/
def fnExactRibbonTextCard : Claim7 := { stood := { row := fnExactRibbonTextRow, standIns := [], harness := (true, "03f43b0fb56341872565b5c8008cd245c183e2b38659833c2efecbb29fa00490"), looks := true }, kinds := [], alts := [], laidByText := true, laidKinds := [.data, .data, .data], laidTests := true, laidLooks := .later }
def FnExactRibbonTextCardSaid : Prop := Claim7.holds Tryd.pinned (.plain (OpenSpec.ofChange fnExactRibbonTextSpec)) fnExactRibbonTextCard

/-- THE SECOND FORM's CARD OF 'laws.FnExactStrokesUntil'. -/
def fnExactStrokesUntilUptoCard : Claim7 := { stood := { row := fnExactStrokesUntilUptoRow, standIns := [], harness := (true, "03f43b0fb56341872565b5c8008cd245c183e2b38659833c2efecbb29fa00490"), looks := true }, kinds := [], alts := [], laidByText := true, laidKinds := [.sentinel], laidTests := true, laidLooks := .later }
def FnExactStrokesUntilUptoCardSaid : Prop := Claim7.holds Tryd.pinned (.plain (OpenSpec.upto fnExactStrokesUntilSpec)) fnExactStrokesUntilUptoCard

/-- THE SECOND FORM's CARD OF 'laws.FnExactRibbonsFor'. -/
def fnExactRibbonsForUptoCard : Claim7 := { stood := { row := fnExactRibbonsForUptoRow, standIns := [], harness := (true, "03f43b0fb56341872565b5c8008cd245c183e2b38659833c2efecbb29fa00490"), looks := true }, kinds := [], alts := [], laidByText := true, laidKinds := [.sentinel], laidTests := true, laidLooks := .later }
def FnExactRibbonsForUptoCardSaid : Prop := Claim7.holds Tryd.pinned (.plain (OpenSpec.upto fnExactRibbonsForSpec)) fnExactRibbonsForUptoCard

/-- THE SECOND FORM's CARD OF 'laws.FnExactBestRibbon'. -/
def fnExactBestRibbonUptoCard : Claim7 := { stood := { row := fnExactBestRibbonUptoRow, standIns := [], harness := (true, "03f43b0fb56341872565b5c8008cd245c183e2b38659833c2efecbb29fa00490"), looks := true }, kinds := [], alts := [], laidByText := true, laidKinds := [.sentinel], laidTests := true, laidLooks := .later }
def FnExactBestRibbonUptoCardSaid : Prop := Claim7.holds Tryd.pinned (.plain (OpenSpec.upto fnExactBestRibbonSpec)) fnExactBestRibbonUptoCard

/-- THE SECOND FORM's CARD OF 'laws.FnExactRibbonText'. -/
def fnExactRibbonTextUptoCard : Claim7 := { stood := { row := fnExactRibbonTextUptoRow, standIns := [], harness := (true, "03f43b0fb56341872565b5c8008cd245c183e2b38659833c2efecbb29fa00490"), looks := true }, kinds := [], alts := [], laidByText := true, laidKinds := [.data, .data, .data], laidTests := true, laidLooks := .later }
def FnExactRibbonTextUptoCardSaid : Prop := Claim7.holds Tryd.pinned (.plain (OpenSpec.upto fnExactRibbonTextSpec)) fnExactRibbonTextUptoCard
end Rows
end Go.Proofs.YtceedmejmmoepaaDoor
