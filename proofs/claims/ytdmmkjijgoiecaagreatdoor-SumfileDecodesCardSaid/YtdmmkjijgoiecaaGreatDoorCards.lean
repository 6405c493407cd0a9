/-
  DERIVED. GIVEN WITH THE SEED: THE CARDS: each row of YtdmmkjijgoiecaaGreatDoorRows.lean that lists a variable, with what it lists TIED to the program's text (the seventh form; the later family's looks); each row that meets fmt, with fmt's text TOLD by the authors' own Lean function (tested against real Go, not proved from fmt's source: count such statements apart). THE CARD IS WHAT COUNTS. Prove the row's statement (the work); the ties are given (YtdmmkjijgoiecaaGreatDoorTie.lean); close each card by the builder's one call (the guide's Derived/Test/ToyasCard.lean, 'card_holds'). Laid BY PROGRAM, IN A SANDBOX (cutbox-door.mjs). By AI agents, Wed Nov 11 2026. No macro, syntax, notation, axiom, sorry.
-/
import Derived.Test.YtdmmkjijgoiecaaGreatDoorRows
import GoSem.ClaimSeven
namespace Go.Proofs.YtdmmkjijgoiecaaGreatDoor
namespace Rows

/-- THE TIED CARD OF 'weftlaw27.SumfileEncodes'. -/
def sumfileEncodesCard : Claim7 := { stood := { row := sumfileEncodesRow, standIns := [], harness := (true, "ba14a994e63f161d42335e56be3721215a6cae9001a69555edf2017cb90063db"), looks := false }, kinds := [], alts := [], laidByText := true, laidKinds := [.data, .data, .data, .data, .pinned], laidTests := true, laidLooks := .later }
def SumfileEncodesCardSaid : Prop := Claim7.holds Tryz.pinned (.plain (OpenSpec.ofChange sumfileEncodesSpec)) sumfileEncodesCard

/-- THE TIED CARD OF 'weftlaw27.SumfileDecodes'. -/
def sumfileDecodesCard : Claim7 := { stood := { row := sumfileDecodesRow, standIns := [], harness := (true, "ba14a994e63f161d42335e56be3721215a6cae9001a69555edf2017cb90063db"), looks := false }, kinds := [], alts := [], laidByText := true, laidKinds := [.data, .data, .data, .data, .pinned], laidTests := true, laidLooks := .later }
def SumfileDecodesCardSaid : Prop := Claim7.holds Tryz.pinned (.plain (OpenSpec.ofChange sumfileDecodesSpec)) sumfileDecodesCard

/-- THE TIED CARD OF 'weftlaw27.SumfileBack'. -/
def sumfileBackCard : Claim7 := { stood := { row := sumfileBackRow, standIns := [], harness := (true, "ba14a994e63f161d42335e56be3721215a6cae9001a69555edf2017cb90063db"), looks := false }, kinds := [], alts := [], laidByText := true, laidKinds := [.data, .data, .data, .data, .pinned], laidTests := true, laidLooks := .later }
def SumfileBackCardSaid : Prop := Claim7.holds Tryz.pinned (.plain (OpenSpec.ofChange sumfileBackSpec)) sumfileBackCard

/-- THE TIED CARD OF 'weftlaw27.SumfileTurned'. -/
def sumfileTurnedCard : Claim7 := { stood := { row := sumfileTurnedRow, standIns := [], harness := (true, "ba14a994e63f161d42335e56be3721215a6cae9001a69555edf2017cb90063db"), looks := false }, kinds := [], alts := [], laidByText := true, laidKinds := [.data, .data, .data, .data, .pinned], laidTests := true, laidLooks := .later }
def SumfileTurnedCardSaid : Prop := Claim7.holds Tryz.pinned (.plain (OpenSpec.ofChange sumfileTurnedSpec)) sumfileTurnedCard

/-- THE TIED CARD OF 'weftlaw37.BoundOf'. -/
def boundOfCard : Claim7 := { stood := { row := boundOfRow, standIns := [], harness := (true, "ba14a994e63f161d42335e56be3721215a6cae9001a69555edf2017cb90063db"), looks := false }, kinds := [], alts := [], laidByText := true, laidKinds := [.data, .data, .data, .data, .pinned], laidTests := true, laidLooks := .later }
def BoundOfCardSaid : Prop := Claim7.holds Tryz.pinned (.plain (OpenSpec.ofChange boundOfSpec)) boundOfCard

/-- THE SECOND FORM's CARD OF 'weftlaw27.SumfileEncodes'. -/
def sumfileEncodesUptoCard : Claim7 := { stood := { row := sumfileEncodesUptoRow, standIns := [], harness := (true, "ba14a994e63f161d42335e56be3721215a6cae9001a69555edf2017cb90063db"), looks := false }, kinds := [], alts := [], laidByText := true, laidKinds := [.data, .data, .data, .data, .pinned], laidTests := true, laidLooks := .later }
def SumfileEncodesUptoCardSaid : Prop := Claim7.holds Tryz.pinned (.plain (OpenSpec.upto sumfileEncodesSpec)) sumfileEncodesUptoCard

/-- THE SECOND FORM's CARD OF 'weftlaw27.SumfileDecodes'. -/
def sumfileDecodesUptoCard : Claim7 := { stood := { row := sumfileDecodesUptoRow, standIns := [], harness := (true, "ba14a994e63f161d42335e56be3721215a6cae9001a69555edf2017cb90063db"), looks := false }, kinds := [], alts := [], laidByText := true, laidKinds := [.data, .data, .data, .data, .pinned], laidTests := true, laidLooks := .later }
def SumfileDecodesUptoCardSaid : Prop := Claim7.holds Tryz.pinned (.plain (OpenSpec.upto sumfileDecodesSpec)) sumfileDecodesUptoCard

/-- THE SECOND FORM's CARD OF 'weftlaw27.SumfileBack'. -/
def sumfileBackUptoCard : Claim7 := { stood := { row := sumfileBackUptoRow, standIns := [], harness := (true, "ba14a994e63f161d42335e56be3721215a6cae9001a69555edf2017cb90063db"), looks := false }, kinds := [], alts := [], laidByText := true, laidKinds := [.data, .data, .data, .data, .pinned], laidTests := true, laidLooks := .later }
def SumfileBackUptoCardSaid : Prop := Claim7.holds Tryz.pinned (.plain (OpenSpec.upto sumfileBackSpec)) sumfileBackUptoCard

/-- THE SECOND FORM's CARD OF 'weftlaw27.SumfileTurned'. -/
def sumfileTurnedUptoCard : Claim7 := { stood := { row := sumfileTurnedUptoRow, standIns := [], harness := (true, "ba14a994e63f161d42335e56be3721215a6cae9001a69555edf2017cb90063db"), looks := false }, kinds := [], alts := [], laidByText := true, laidKinds := [.data, .data, .data, .data, .pinned], laidTests := true, laidLooks := .later }
def SumfileTurnedUptoCardSaid : Prop := Claim7.holds Tryz.pinned (.plain (OpenSpec.upto sumfileTurnedSpec)) sumfileTurnedUptoCard

/-- THE SECOND FORM's CARD OF 'weftlaw37.BoundOf'. -/
def boundOfUptoCard : Claim7 := { stood := { row := boundOfUptoRow, standIns := [], harness := (true, "ba14a994e63f161d42335e56be3721215a6cae9001a69555edf2017cb90063db"), looks := false }, kinds := [], alts := [], laidByText := true, laidKinds := [.data, .data, .data, .data, .pinned], laidTests := true, laidLooks := .later }
def BoundOfUptoCardSaid : Prop := Claim7.holds Tryz.pinned (.plain (OpenSpec.upto boundOfSpec)) boundOfUptoCard
end Rows
end Go.Proofs.YtdmmkjijgoiecaaGreatDoor
