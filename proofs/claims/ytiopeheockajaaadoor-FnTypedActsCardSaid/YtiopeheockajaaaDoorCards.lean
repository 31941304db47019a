/-
  DERIVED. GIVEN WITH THE SEED: THE CARDS: each row of YtiopeheockajaaaDoorRows.lean that lists a variable, with what it lists TIED to the program's text (the seventh form; the later family's looks); each row that meets fmt, with fmt's text TOLD by the authors' own Lean function (tested against real Go, not proved from fmt's source: count such statements apart). THE CARD IS WHAT COUNTS. Prove the row's statement (the work); the ties are given (YtiopeheockajaaaDoorTie.lean); close each card by the builder's one call (the guide's Derived/Test/ToyasCard.lean, 'card_holds'). Laid BY PROGRAM, IN A SANDBOX (cutbox-door.mjs). By AI agents, Wed Nov 11 2026. No macro, syntax, notation, axiom, sorry.
-/
import Derived.Test.YtiopeheockajaaaDoorRows
import GoSem.ClaimSeven
namespace Go.Proofs.YtiopeheockajaaaDoor
namespace Rows

/-- THE TIED CARD OF 'laws.FnExactActsForLine'. -/
def fnExactActsForLineCard : Claim7 := { stood := { row := fnExactActsForLineRow, standIns := [], harness := (true, "c838cde5528e2cb8ffbce0c81a24dbfaee7e0ba355ba57516e1cf6b7719494df"), looks := false }, kinds := [], alts := [], laidByText := true, laidKinds := [.data, .pinned], laidTests := true, laidLooks := .later }
def FnExactActsForLineCardSaid : Prop := Claim7.holds Tryd.pinned (.plain (OpenSpec.ofChange fnExactActsForLineSpec)) fnExactActsForLineCard

/-- THE TIED CARD OF 'laws.FnTypedActs'. -/
def fnTypedActsCard : Claim7 := { stood := { row := fnTypedActsRow, standIns := [], harness := (true, "c838cde5528e2cb8ffbce0c81a24dbfaee7e0ba355ba57516e1cf6b7719494df"), looks := false }, kinds := [], alts := [], laidByText := true, laidKinds := [.data, .pinned], laidTests := true, laidLooks := .later }
def FnTypedActsCardSaid : Prop := Claim7.holds Tryd.pinned (.plain (OpenSpec.ofChange fnTypedActsSpec)) fnTypedActsCard

/-- THE SECOND FORM's CARD OF 'laws.FnExactActsForLine'. -/
def fnExactActsForLineUptoCard : Claim7 := { stood := { row := fnExactActsForLineUptoRow, standIns := [], harness := (true, "c838cde5528e2cb8ffbce0c81a24dbfaee7e0ba355ba57516e1cf6b7719494df"), looks := false }, kinds := [], alts := [], laidByText := true, laidKinds := [.data, .pinned], laidTests := true, laidLooks := .later }
def FnExactActsForLineUptoCardSaid : Prop := Claim7.holds Tryd.pinned (.plain (OpenSpec.upto fnExactActsForLineSpec)) fnExactActsForLineUptoCard

/-- THE SECOND FORM's CARD OF 'laws.FnTypedActs'. -/
def fnTypedActsUptoCard : Claim7 := { stood := { row := fnTypedActsUptoRow, standIns := [], harness := (true, "c838cde5528e2cb8ffbce0c81a24dbfaee7e0ba355ba57516e1cf6b7719494df"), looks := false }, kinds := [], alts := [], laidByText := true, laidKinds := [.data, .pinned], laidTests := true, laidLooks := .later }
def FnTypedActsUptoCardSaid : Prop := Claim7.holds Tryd.pinned (.plain (OpenSpec.upto fnTypedActsSpec)) fnTypedActsUptoCard
end Rows
end Go.Proofs.YtiopeheockajaaaDoor
