/-
  DERIVED. GIVEN WITH THE SEED: THE CARDS: each row of YtalmpiffjghhkaaDoorRows.lean that lists a variable, with what it lists TIED to the program's text (the seventh form; the later family's looks); each row that meets fmt, with fmt's text TOLD by the authors' own Lean function (tested against real Go, not proved from fmt's source: count such statements apart). THE CARD IS WHAT COUNTS. Prove the row's statement (the work); the ties are given (YtalmpiffjghhkaaDoorTie.lean); close each card by the builder's one call (the guide's Derived/Test/ToyasCard.lean, 'card_holds'). Laid BY PROGRAM, IN A SANDBOX (cutbox-door.mjs). By AI agents, Wed Nov 11 2026. No macro, syntax, notation, axiom, sorry.
-/
import Derived.Test.YtalmpiffjghhkaaDoorRows
import GoSem.ClaimSeven
namespace Go.Proofs.YtalmpiffjghhkaaDoor
namespace Rows

/-- THE TIED CARD OF 'laws.FnExactCentreText'. -/
def fnExactCentreTextCard : Claim7 := { stood := { row := fnExactCentreTextRow, standIns := [], harness := (true, "6efdaef3bbc6ac590af0c814a99ed4fbc5b76ad0dcfd444d9714c6703fa88707"), looks := false }, kinds := [], alts := [], laidByText := true, laidKinds := [.data, .pinned], laidTests := true, laidLooks := .later }
def FnExactCentreTextCardSaid : Prop := Claim7.holds Tryd.pinned (.plain (OpenSpec.ofChange fnExactCentreTextSpec)) fnExactCentreTextCard

/-- THE TIED CARD OF 'laws.FnExactRightText'. -/
def fnExactRightTextCard : Claim7 := { stood := { row := fnExactRightTextRow, standIns := [], harness := (true, "6efdaef3bbc6ac590af0c814a99ed4fbc5b76ad0dcfd444d9714c6703fa88707"), looks := false }, kinds := [], alts := [], laidByText := true, laidKinds := [.data, .pinned], laidTests := true, laidLooks := .later }
def FnExactRightTextCardSaid : Prop := Claim7.holds Tryd.pinned (.plain (OpenSpec.ofChange fnExactRightTextSpec)) fnExactRightTextCard

/-- THE TIED CARD OF 'laws.FnExactSpreadText'. -/
def fnExactSpreadTextCard : Claim7 := { stood := { row := fnExactSpreadTextRow, standIns := [], harness := (true, "6efdaef3bbc6ac590af0c814a99ed4fbc5b76ad0dcfd444d9714c6703fa88707"), looks := false }, kinds := [], alts := [], laidByText := true, laidKinds := [.data, .pinned], laidTests := true, laidLooks := .later }
def FnExactSpreadTextCardSaid : Prop := Claim7.holds Tryd.pinned (.plain (OpenSpec.ofChange fnExactSpreadTextSpec)) fnExactSpreadTextCard

/-- THE TIED CARD OF 'laws.FnExactJoinSpread'. -/
def fnExactJoinSpreadCard : Claim7 := { stood := { row := fnExactJoinSpreadRow, standIns := [], harness := (true, "6efdaef3bbc6ac590af0c814a99ed4fbc5b76ad0dcfd444d9714c6703fa88707"), looks := false }, kinds := [], alts := [], laidByText := true, laidKinds := [.data, .pinned], laidTests := true, laidLooks := .later }
def FnExactJoinSpreadCardSaid : Prop := Claim7.holds Tryd.pinned (.plain (OpenSpec.ofChange fnExactJoinSpreadSpec)) fnExactJoinSpreadCard

/-- THE TIED CARD OF 'laws.FnExactUnderlineText'. -/
def fnExactUnderlineTextCard : Claim7 := { stood := { row := fnExactUnderlineTextRow, standIns := [], harness := (true, "6efdaef3bbc6ac590af0c814a99ed4fbc5b76ad0dcfd444d9714c6703fa88707"), looks := false }, kinds := [], alts := [], laidByText := true, laidKinds := [.data, .pinned], laidTests := true, laidLooks := .later }
def FnExactUnderlineTextCardSaid : Prop := Claim7.holds Tryd.pinned (.plain (OpenSpec.ofChange fnExactUnderlineTextSpec)) fnExactUnderlineTextCard

/-- THE TIED CARD OF 'laws.FnExactLeaderLine'. -/
def fnExactLeaderLineCard : Claim7 := { stood := { row := fnExactLeaderLineRow, standIns := [], harness := (true, "6efdaef3bbc6ac590af0c814a99ed4fbc5b76ad0dcfd444d9714c6703fa88707"), looks := false }, kinds := [], alts := [], laidByText := true, laidKinds := [.data, .pinned], laidTests := true, laidLooks := .later }
def FnExactLeaderLineCardSaid : Prop := Claim7.holds Tryd.pinned (.plain (OpenSpec.ofChange fnExactLeaderLineSpec)) fnExactLeaderLineCard

/-- THE TIED CARD OF 'laws.FnExactBackSpaces'. -/
def fnExactBackSpacesCard : Claim7 := { stood := { row := fnExactBackSpacesRow, standIns := [], harness := (true, "6efdaef3bbc6ac590af0c814a99ed4fbc5b76ad0dcfd444d9714c6703fa88707"), looks := false }, kinds := [], alts := [], laidByText := true, laidKinds := [.data, .pinned], laidTests := true, laidLooks := .later }
def FnExactBackSpacesCardSaid : Prop := Claim7.holds Tryd.pinned (.plain (OpenSpec.ofChange fnExactBackSpacesSpec)) fnExactBackSpacesCard

/-- THE TIED CARD OF 'laws.FnExactTitlePage'. -/
def fnExactTitlePageCard : Claim7 := { stood := { row := fnExactTitlePageRow, standIns := [], harness := (true, "6efdaef3bbc6ac590af0c814a99ed4fbc5b76ad0dcfd444d9714c6703fa88707"), looks := false }, kinds := [], alts := [], laidByText := true, laidKinds := [.data, .pinned], laidTests := true, laidLooks := .later }
def FnExactTitlePageCardSaid : Prop := Claim7.holds Tryd.pinned (.plain (OpenSpec.ofChange fnExactTitlePageSpec)) fnExactTitlePageCard

/-- THE SECOND FORM's CARD OF 'laws.FnExactCentreText'. -/
def fnExactCentreTextUptoCard : Claim7 := { stood := { row := fnExactCentreTextUptoRow, standIns := [], harness := (true, "6efdaef3bbc6ac590af0c814a99ed4fbc5b76ad0dcfd444d9714c6703fa88707"), looks := false }, kinds := [], alts := [], laidByText := true, laidKinds := [.data, .pinned], laidTests := true, laidLooks := .later }
def FnExactCentreTextUptoCardSaid : Prop := Claim7.holds Tryd.pinned (.plain (OpenSpec.upto fnExactCentreTextSpec)) fnExactCentreTextUptoCard

/-- THE SECOND FORM's CARD OF 'laws.FnExactRightText'. -/
def fnExactRightTextUptoCard : Claim7 := { stood := { row := fnExactRightTextUptoRow, standIns := [], harness := (true, "6efdaef3bbc6ac590af0c814a99ed4fbc5b76ad0dcfd444d9714c6703fa88707"), looks := false }, kinds := [], alts := [], laidByText := true, laidKinds := [.data, .pinned], laidTests := true, laidLooks := .later }
def FnExactRightTextUptoCardSaid : Prop := Claim7.holds Tryd.pinned (.plain (OpenSpec.upto fnExactRightTextSpec)) fnExactRightTextUptoCard

/-- THE SECOND FORM's CARD OF 'laws.FnExactSpreadText'. -/
def fnExactSpreadTextUptoCard : Claim7 := { stood := { row := fnExactSpreadTextUptoRow, standIns := [], harness := (true, "6efdaef3bbc6ac590af0c814a99ed4fbc5b76ad0dcfd444d9714c6703fa88707"), looks := false }, kinds := [], alts := [], laidByText := true, laidKinds := [.data, .pinned], laidTests := true, laidLooks := .later }
def FnExactSpreadTextUptoCardSaid : Prop := Claim7.holds Tryd.pinned (.plain (OpenSpec.upto fnExactSpreadTextSpec)) fnExactSpreadTextUptoCard

/-- THE SECOND FORM's CARD OF 'laws.FnExactJoinSpread'. -/
def fnExactJoinSpreadUptoCard : Claim7 := { stood := { row := fnExactJoinSpreadUptoRow, standIns := [], harness := (true, "6efdaef3bbc6ac590af0c814a99ed4fbc5b76ad0dcfd444d9714c6703fa88707"), looks := false }, kinds := [], alts := [], laidByText := true, laidKinds := [.data, .pinned], laidTests := true, laidLooks := .later }
def FnExactJoinSpreadUptoCardSaid : Prop := Claim7.holds Tryd.pinned (.plain (OpenSpec.upto fnExactJoinSpreadSpec)) fnExactJoinSpreadUptoCard

/-- THE SECOND FORM's CARD OF 'laws.FnExactUnderlineText'. -/
def fnExactUnderlineTextUptoCard : Claim7 := { stood := { row := fnExactUnderlineTextUptoRow, standIns := [], harness := (true, "6efdaef3bbc6ac590af0c814a99ed4fbc5b76ad0dcfd444d9714c6703fa88707"), looks := false }, kinds := [], alts := [], laidByText := true, laidKinds := [.data, .pinned], laidTests := true, laidLooks := .later }
def FnExactUnderlineTextUptoCardSaid : Prop := Claim7.holds Tryd.pinned (.plain (OpenSpec.upto fnExactUnderlineTextSpec)) fnExactUnderlineTextUptoCard

/-- THE SECOND FORM's CARD OF 'laws.FnExactLeaderLine'. -/
def fnExactLeaderLineUptoCard : Claim7 := { stood := { row := fnExactLeaderLineUptoRow, standIns := [], harness := (true, "6efdaef3bbc6ac590af0c814a99ed4fbc5b76ad0dcfd444d9714c6703fa88707"), looks := false }, kinds := [], alts := [], laidByText := true, laidKinds := [.data, .pinned], laidTests := true, laidLooks := .later }
def FnExactLeaderLineUptoCardSaid : Prop := Claim7.holds Tryd.pinned (.plain (OpenSpec.upto fnExactLeaderLineSpec)) fnExactLeaderLineUptoCard

/-- THE SECOND FORM's CARD OF 'laws.FnExactBackSpaces'. -/
def fnExactBackSpacesUptoCard : Claim7 := { stood := { row := fnExactBackSpacesUptoRow, standIns := [], harness := (true, "6efdaef3bbc6ac590af0c814a99ed4fbc5b76ad0dcfd444d9714c6703fa88707"), looks := false }, kinds := [], alts := [], laidByText := true, laidKinds := [.data, .pinned], laidTests := true, laidLooks := .later }
def FnExactBackSpacesUptoCardSaid : Prop := Claim7.holds Tryd.pinned (.plain (OpenSpec.upto fnExactBackSpacesSpec)) fnExactBackSpacesUptoCard

/-- THE SECOND FORM's CARD OF 'laws.FnExactTitlePage'. -/
def fnExactTitlePageUptoCard : Claim7 := { stood := { row := fnExactTitlePageUptoRow, standIns := [], harness := (true, "6efdaef3bbc6ac590af0c814a99ed4fbc5b76ad0dcfd444d9714c6703fa88707"), looks := false }, kinds := [], alts := [], laidByText := true, laidKinds := [.data, .pinned], laidTests := true, laidLooks := .later }
def FnExactTitlePageUptoCardSaid : Prop := Claim7.holds Tryd.pinned (.plain (OpenSpec.upto fnExactTitlePageSpec)) fnExactTitlePageUptoCard
end Rows
end Go.Proofs.YtalmpiffjghhkaaDoor
