/-
  DERIVED. GIVEN WITH THE SEED: THE CARDS: each row of YtehieiddelngfaaDoorRows.lean that lists a variable, with what it lists TIED to the program's text (the seventh form; the later family's looks); each row that meets fmt, with fmt's text TOLD by the authors' own Lean function (tested against real Go, not proved from fmt's source: count such statements apart). THE CARD IS WHAT COUNTS. Prove the row's statement (the work); the ties are given (YtehieiddelngfaaDoorTie.lean); close each card by the builder's one call (the guide's Derived/Test/ToyasCard.lean, 'card_holds'). Laid BY PROGRAM, IN A SANDBOX (cutbox-door.mjs). By AI agents, Wed Nov 11 2026. No macro, syntax, notation, axiom, sorry.
-/
import Derived.Test.YtehieiddelngfaaDoorRows
import GoSem.ClaimSeven
namespace Go.Proofs.YtehieiddelngfaaDoor
namespace Rows

/-- THE TIED CARD OF 'weftlaw09.TokenKeys'. -/
def tokenKeysCard : Claim7 := { stood := { row := tokenKeysRow, standIns := [], harness := (true, "080eb30f10a55744afb5fd583ebad687b38291b1f6a0905e9a0e7b7d0f7db8fc"), looks := false }, kinds := [], alts := [], laidByText := true, laidKinds := [.listed, .data], laidTests := true, laidLooks := .later }
def TokenKeysCardSaid : Prop := Claim7.holds Tryd.pinned (.plain (OpenSpec.ofChange tokenKeysSpec)) tokenKeysCard

/-- THE SECOND FORM's CARD OF 'weftlaw09.TokenKeys'. -/
def tokenKeysUptoCard : Claim7 := { stood := { row := tokenKeysUptoRow, standIns := [], harness := (true, "080eb30f10a55744afb5fd583ebad687b38291b1f6a0905e9a0e7b7d0f7db8fc"), looks := false }, kinds := [], alts := [], laidByText := true, laidKinds := [.listed, .data], laidTests := true, laidLooks := .later }
def TokenKeysUptoCardSaid : Prop := Claim7.holds Tryd.pinned (.plain (OpenSpec.upto tokenKeysSpec)) tokenKeysUptoCard
end Rows
end Go.Proofs.YtehieiddelngfaaDoor
