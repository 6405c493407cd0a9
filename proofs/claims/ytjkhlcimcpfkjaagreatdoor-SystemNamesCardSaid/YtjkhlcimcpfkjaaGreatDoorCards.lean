/-
  DERIVED. GIVEN WITH THE SEED: THE CARDS: each row of YtjkhlcimcpfkjaaGreatDoorRows.lean that lists a variable, with what it lists TIED to the program's text (the seventh form; the later family's looks); each row that meets fmt, with fmt's text TOLD by the authors' own Lean function (tested against real Go, not proved from fmt's source: count such statements apart). THE CARD IS WHAT COUNTS. Prove the row's statement (the work); the ties are given (YtjkhlcimcpfkjaaGreatDoorTie.lean); close each card by the builder's one call (the guide's Derived/Test/ToyasCard.lean, 'card_holds'). Laid BY PROGRAM, IN A SANDBOX (cutbox-door.mjs). By AI agents, Wed Nov 11 2026. No macro, syntax, notation, axiom, sorry.
-/
import Derived.Test.YtjkhlcimcpfkjaaGreatDoorRows
import GoSem.ClaimSeven
namespace Go.Proofs.YtjkhlcimcpfkjaaGreatDoor
namespace Rows

/-- THE TIED CARD OF 'weftlaw15.SystemChecks'. -/
def systemChecksCard : Claim7 := { stood := { row := systemChecksRow, standIns := [], harness := (true, "7441dfa8ad3faf60fc61e0be057496339dbbd20fdeb16da2875a22045771ec26"), looks := false }, kinds := [], alts := [], laidByText := true, laidKinds := [.data, .data, .data, .data, .pinned], laidTests := true, laidLooks := .later }
def SystemChecksCardSaid : Prop := Claim7.holds Tryz.pinned (.plain (OpenSpec.ofChange systemChecksSpec)) systemChecksCard

/-- THE TIED CARD OF 'weftlaw15.SystemNames'. -/
def systemNamesCard : Claim7 := { stood := { row := systemNamesRow, standIns := [], harness := (true, "7441dfa8ad3faf60fc61e0be057496339dbbd20fdeb16da2875a22045771ec26"), looks := false }, kinds := [], alts := [], laidByText := true, laidKinds := [.data, .data, .data, .data, .pinned], laidTests := true, laidLooks := .later }
def SystemNamesCardSaid : Prop := Claim7.holds Tryz.pinned (.plain (OpenSpec.ofChange systemNamesSpec)) systemNamesCard

/-- THE TIED CARD OF 'weftlaw15.SystemUnions'. -/
def systemUnionsCard : Claim7 := { stood := { row := systemUnionsRow, standIns := [], harness := (true, "7441dfa8ad3faf60fc61e0be057496339dbbd20fdeb16da2875a22045771ec26"), looks := false }, kinds := [], alts := [], laidByText := true, laidKinds := [.data, .data, .data, .data, .pinned], laidTests := true, laidLooks := .later }
def SystemUnionsCardSaid : Prop := Claim7.holds Tryz.pinned (.plain (OpenSpec.ofChange systemUnionsSpec)) systemUnionsCard

/-- THE TIED CARD OF 'weftlaw15.SystemAgain'. -/
def systemAgainCard : Claim7 := { stood := { row := systemAgainRow, standIns := [], harness := (true, "7441dfa8ad3faf60fc61e0be057496339dbbd20fdeb16da2875a22045771ec26"), looks := false }, kinds := [], alts := [], laidByText := true, laidKinds := [.data, .data, .data, .data, .pinned], laidTests := true, laidLooks := .later }
def SystemAgainCardSaid : Prop := Claim7.holds Tryz.pinned (.plain (OpenSpec.ofChange systemAgainSpec)) systemAgainCard

/-- THE TIED CARD OF 'weftlaw15.SystemGrow'. -/
def systemGrowCard : Claim7 := { stood := { row := systemGrowRow, standIns := [], harness := (true, "7441dfa8ad3faf60fc61e0be057496339dbbd20fdeb16da2875a22045771ec26"), looks := false }, kinds := [], alts := [], laidByText := true, laidKinds := [.data, .data, .data, .data, .pinned], laidTests := true, laidLooks := .later }
def SystemGrowCardSaid : Prop := Claim7.holds Tryz.pinned (.plain (OpenSpec.ofChange systemGrowSpec)) systemGrowCard

/-- THE SECOND FORM's CARD OF 'weftlaw15.SystemChecks'. -/
def systemChecksUptoCard : Claim7 := { stood := { row := systemChecksUptoRow, standIns := [], harness := (true, "7441dfa8ad3faf60fc61e0be057496339dbbd20fdeb16da2875a22045771ec26"), looks := false }, kinds := [], alts := [], laidByText := true, laidKinds := [.data, .data, .data, .data, .pinned], laidTests := true, laidLooks := .later }
def SystemChecksUptoCardSaid : Prop := Claim7.holds Tryz.pinned (.plain (OpenSpec.upto systemChecksSpec)) systemChecksUptoCard

/-- THE SECOND FORM's CARD OF 'weftlaw15.SystemNames'. -/
def systemNamesUptoCard : Claim7 := { stood := { row := systemNamesUptoRow, standIns := [], harness := (true, "7441dfa8ad3faf60fc61e0be057496339dbbd20fdeb16da2875a22045771ec26"), looks := false }, kinds := [], alts := [], laidByText := true, laidKinds := [.data, .data, .data, .data, .pinned], laidTests := true, laidLooks := .later }
def SystemNamesUptoCardSaid : Prop := Claim7.holds Tryz.pinned (.plain (OpenSpec.upto systemNamesSpec)) systemNamesUptoCard

/-- THE SECOND FORM's CARD OF 'weftlaw15.SystemUnions'. -/
def systemUnionsUptoCard : Claim7 := { stood := { row := systemUnionsUptoRow, standIns := [], harness := (true, "7441dfa8ad3faf60fc61e0be057496339dbbd20fdeb16da2875a22045771ec26"), looks := false }, kinds := [], alts := [], laidByText := true, laidKinds := [.data, .data, .data, .data, .pinned], laidTests := true, laidLooks := .later }
def SystemUnionsUptoCardSaid : Prop := Claim7.holds Tryz.pinned (.plain (OpenSpec.upto systemUnionsSpec)) systemUnionsUptoCard

/-- THE SECOND FORM's CARD OF 'weftlaw15.SystemAgain'. -/
def systemAgainUptoCard : Claim7 := { stood := { row := systemAgainUptoRow, standIns := [], harness := (true, "7441dfa8ad3faf60fc61e0be057496339dbbd20fdeb16da2875a22045771ec26"), looks := false }, kinds := [], alts := [], laidByText := true, laidKinds := [.data, .data, .data, .data, .pinned], laidTests := true, laidLooks := .later }
def SystemAgainUptoCardSaid : Prop := Claim7.holds Tryz.pinned (.plain (OpenSpec.upto systemAgainSpec)) systemAgainUptoCard

/-- THE SECOND FORM's CARD OF 'weftlaw15.SystemGrow'. -/
def systemGrowUptoCard : Claim7 := { stood := { row := systemGrowUptoRow, standIns := [], harness := (true, "7441dfa8ad3faf60fc61e0be057496339dbbd20fdeb16da2875a22045771ec26"), looks := false }, kinds := [], alts := [], laidByText := true, laidKinds := [.data, .data, .data, .data, .pinned], laidTests := true, laidLooks := .later }
def SystemGrowUptoCardSaid : Prop := Claim7.holds Tryz.pinned (.plain (OpenSpec.upto systemGrowSpec)) systemGrowUptoCard
end Rows
end Go.Proofs.YtjkhlcimcpfkjaaGreatDoor
