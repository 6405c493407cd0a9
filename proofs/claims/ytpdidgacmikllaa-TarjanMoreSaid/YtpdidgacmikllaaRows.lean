/-
  No cell of these rows narrows 'for every input' (looked for: loops, veiled, ifaces, maps, wideKeys, modest, calm, conditions, laid).
  DERIVED. THE GIVEN ROWS OF THIS SEAT. 5 by the template 'for every input the law returns true; each argument reads behind the call as it read before'; 0 by the template 'total and deterministic' (their statements: YtpdidgacmikllaaTotals.lean).
  GIVEN WITH THE SEED: the statements are not yours to turn. If you find one false, say at which input.
  Laid BY PROGRAM, IN A SANDBOX (cutbox-rows.mjs): the forced cells as the released guide's own fill.sh prints them over the translation 9827b5313562640c… (all of the seat's roots in one cut). By AI agents, Wed Nov 11 2026. No macro, syntax, notation, axiom, sorry.
-/
import Derived.Test.YtpdidgacmikllaaChecked
import GoSem.Claim
import GoSem.ClaimJoined
import GoSem.ClaimMapViews
import Derived.JoinedTies
import Derived.KernelRfl
namespace Go.Proofs.Ytpdidgacmikllaa
/- THE CELL 'sum', in the pinned program and in every row, IS THE sha256 OF THE DUMP (.gsa) THAT YtpdidgacmikllaaProg.lean LOADS. Nothing in Lean hashes anything: it is a label: what it is worth is what the hold of that sum in a sandbox is worth. -/
noncomputable def Try.pinned : Pinned := { name := "ytpdidgacmikllaa", sum := "9827b5313562640ca91176652f2b133624aed5176c847f535dfdc54f7aa77bca", checked := Try.checked }
namespace Rows
def none {H : Type} : Left H := { results := [], args := [] }

/-- 'weftlaw07.TarjanParts': WHATEVER THE INPUT: true; the input reads as it did. -/
def tarjanPartsSpec : ChangeSpec := { name := "tarjanParts", fn := fun _ => fun
  | [d1, d2] => { results := [.lit (.bool true)], args := [d1, d2] }
  | _ => none }
def tarjanPartsRow : OpenClaim := { program := "ytpdidgacmikllaa", sum := "9827b5313562640ca91176652f2b133624aed5176c847f535dfdc54f7aa77bca", func := "weft/weftlaw07.TarjanParts", spec := "tarjanParts", unfollowed := true, recurses := true, apart := false }
def TarjanPartsSaid : Prop := tarjanPartsRow.holds Try.pinned (OpenSpec.ofChange tarjanPartsSpec)

/-- ITS FALSE NEIGHBOUR: 'it returns false'. Refute it at one input. -/
def tarjanPartsWrong : ChangeSpec := { name := "tarjanParts", fn := fun _ => fun
  | [d1, d2] => { results := [.lit (.bool false)], args := [d1, d2] }
  | _ => none }
def TarjanPartsWrongFalsely : Prop := tarjanPartsRow.holds Try.pinned (OpenSpec.ofChange tarjanPartsWrong)

/-- 'weftlaw07.TarjanLeads': WHATEVER THE INPUT: true; the input reads as it did. -/
def tarjanLeadsSpec : ChangeSpec := { name := "tarjanLeads", fn := fun _ => fun
  | [d1, d2, d3] => { results := [.lit (.bool true)], args := [d1, d2, d3] }
  | _ => none }
def tarjanLeadsRow : OpenClaim := { program := "ytpdidgacmikllaa", sum := "9827b5313562640ca91176652f2b133624aed5176c847f535dfdc54f7aa77bca", func := "weft/weftlaw07.TarjanLeads", spec := "tarjanLeads", unfollowed := true, recurses := true, apart := false }
def TarjanLeadsSaid : Prop := tarjanLeadsRow.holds Try.pinned (OpenSpec.ofChange tarjanLeadsSpec)

/-- ITS FALSE NEIGHBOUR: 'it returns false'. Refute it at one input. -/
def tarjanLeadsWrong : ChangeSpec := { name := "tarjanLeads", fn := fun _ => fun
  | [d1, d2, d3] => { results := [.lit (.bool false)], args := [d1, d2, d3] }
  | _ => none }
def TarjanLeadsWrongFalsely : Prop := tarjanLeadsRow.holds Try.pinned (OpenSpec.ofChange tarjanLeadsWrong)

/-- 'weftlaw07.TarjanBehind': WHATEVER THE INPUT: true; the input reads as it did. -/
def tarjanBehindSpec : ChangeSpec := { name := "tarjanBehind", fn := fun _ => fun
  | [d1, d2] => { results := [.lit (.bool true)], args := [d1, d2] }
  | _ => none }
def tarjanBehindRow : OpenClaim := { program := "ytpdidgacmikllaa", sum := "9827b5313562640ca91176652f2b133624aed5176c847f535dfdc54f7aa77bca", func := "weft/weftlaw07.TarjanBehind", spec := "tarjanBehind", unfollowed := true, recurses := true, apart := false }
def TarjanBehindSaid : Prop := tarjanBehindRow.holds Try.pinned (OpenSpec.ofChange tarjanBehindSpec)

/-- ITS FALSE NEIGHBOUR: 'it returns false'. Refute it at one input. -/
def tarjanBehindWrong : ChangeSpec := { name := "tarjanBehind", fn := fun _ => fun
  | [d1, d2] => { results := [.lit (.bool false)], args := [d1, d2] }
  | _ => none }
def TarjanBehindWrongFalsely : Prop := tarjanBehindRow.holds Try.pinned (OpenSpec.ofChange tarjanBehindWrong)

/-- 'weftlaw07.TarjanMore': WHATEVER THE INPUT: true; the input reads as it did. -/
def tarjanMoreSpec : ChangeSpec := { name := "tarjanMore", fn := fun _ => fun
  | [d1, d2, d3] => { results := [.lit (.bool true)], args := [d1, d2, d3] }
  | _ => none }
def tarjanMoreRow : OpenClaim := { program := "ytpdidgacmikllaa", sum := "9827b5313562640ca91176652f2b133624aed5176c847f535dfdc54f7aa77bca", func := "weft/weftlaw07.TarjanMore", spec := "tarjanMore", unfollowed := true, recurses := true, apart := false }
def TarjanMoreSaid : Prop := tarjanMoreRow.holds Try.pinned (OpenSpec.ofChange tarjanMoreSpec)

/-- ITS FALSE NEIGHBOUR: 'it returns false'. Refute it at one input. -/
def tarjanMoreWrong : ChangeSpec := { name := "tarjanMore", fn := fun _ => fun
  | [d1, d2, d3] => { results := [.lit (.bool false)], args := [d1, d2, d3] }
  | _ => none }
def TarjanMoreWrongFalsely : Prop := tarjanMoreRow.holds Try.pinned (OpenSpec.ofChange tarjanMoreWrong)

/-- 'weftlaw07.TarjanTurned': WHATEVER THE INPUT: true; the input reads as it did. -/
def tarjanTurnedSpec : ChangeSpec := { name := "tarjanTurned", fn := fun _ => fun
  | [d1, d2] => { results := [.lit (.bool true)], args := [d1, d2] }
  | _ => none }
def tarjanTurnedRow : OpenClaim := { program := "ytpdidgacmikllaa", sum := "9827b5313562640ca91176652f2b133624aed5176c847f535dfdc54f7aa77bca", func := "weft/weftlaw07.TarjanTurned", spec := "tarjanTurned", unfollowed := true, recurses := true, apart := false }
def TarjanTurnedSaid : Prop := tarjanTurnedRow.holds Try.pinned (OpenSpec.ofChange tarjanTurnedSpec)

/-- ITS FALSE NEIGHBOUR: 'it returns false'. Refute it at one input. -/
def tarjanTurnedWrong : ChangeSpec := { name := "tarjanTurned", fn := fun _ => fun
  | [d1, d2] => { results := [.lit (.bool false)], args := [d1, d2] }
  | _ => none }
def TarjanTurnedWrongFalsely : Prop := tarjanTurnedRow.holds Try.pinned (OpenSpec.ofChange tarjanTurnedWrong)

/- THE SECOND FORM. 'bulk': how many values and letters a reading holds, each counted each time it is reached (what is shared counts as often as it is met; a slice's spare places count too). A statement '..UptoSaid' is the law's where the arguments, and the package variables that the reading takes, are together of bulk at most 1048576: NARROWER than '..Said'. Prove '..Said' where nothing that the law and all that it calls make is longer than what came in: it says more and counts as full. Else prove '..UptoSaid'. A law counts once. -/
mutual
def uptoBulk {H : Type} : DataW H → Nat
  | .lit (.string bytes) => bytes.length + 1
  | .lit _ => 1
  | .nil => 1
  | .ptr d => uptoBulk d + 1
  | .slice elems spare => uptoBulkAll elems + uptoBulkAll spare + 1
  | .agg parts => uptoBulkAll parts + 1
  | .iface _ d => uptoBulk d + 1
  | .map entries => uptoBulkEntries entries + 1
  | .held _ => 1
def uptoBulkAll {H : Type} : List (DataW H) → Nat
  | [] => 0
  | d :: r => uptoBulk d + uptoBulkAll r
def uptoBulkEntries {H : Type} : List (Lit × DataW H) → Nat
  | [] => 0
  | x :: r => uptoBulkEntry x + uptoBulkEntries r
def uptoBulkEntry {H : Type} : Lit × DataW H → Nat
  | (.string bytes, d) => bytes.length + uptoBulk d + 1
  | (_, d) => uptoBulk d + 1
 end
def uptoSmall : (H : Type) → List (DataW H) → Bool := fun _ ds => decide (uptoBulkAll ds ≤ 1048576)
def OpenSpec.upto (s : _root_.Go.ChangeSpec) : _root_.Go.OpenSpec := { _root_.Go.OpenSpec.ofChange s with cond := some uptoSmall }

/-- 'weftlaw07.TarjanParts', WHERE WHAT IT READS IS OF BULK AT MOST 1048576: true; the input reads as it did. -/
def tarjanPartsUptoRow : OpenClaim := { program := "ytpdidgacmikllaa", sum := "9827b5313562640ca91176652f2b133624aed5176c847f535dfdc54f7aa77bca", func := "weft/weftlaw07.TarjanParts", spec := "tarjanParts", unfollowed := true, recurses := true, apart := false, narrowed := true }
def TarjanPartsUptoSaid : Prop := tarjanPartsUptoRow.holds Try.pinned (OpenSpec.upto tarjanPartsSpec)

/-- 'weftlaw07.TarjanLeads', WHERE WHAT IT READS IS OF BULK AT MOST 1048576: true; the input reads as it did. -/
def tarjanLeadsUptoRow : OpenClaim := { program := "ytpdidgacmikllaa", sum := "9827b5313562640ca91176652f2b133624aed5176c847f535dfdc54f7aa77bca", func := "weft/weftlaw07.TarjanLeads", spec := "tarjanLeads", unfollowed := true, recurses := true, apart := false, narrowed := true }
def TarjanLeadsUptoSaid : Prop := tarjanLeadsUptoRow.holds Try.pinned (OpenSpec.upto tarjanLeadsSpec)

/-- 'weftlaw07.TarjanBehind', WHERE WHAT IT READS IS OF BULK AT MOST 1048576: true; the input reads as it did. -/
def tarjanBehindUptoRow : OpenClaim := { program := "ytpdidgacmikllaa", sum := "9827b5313562640ca91176652f2b133624aed5176c847f535dfdc54f7aa77bca", func := "weft/weftlaw07.TarjanBehind", spec := "tarjanBehind", unfollowed := true, recurses := true, apart := false, narrowed := true }
def TarjanBehindUptoSaid : Prop := tarjanBehindUptoRow.holds Try.pinned (OpenSpec.upto tarjanBehindSpec)

/-- 'weftlaw07.TarjanMore', WHERE WHAT IT READS IS OF BULK AT MOST 1048576: true; the input reads as it did. -/
def tarjanMoreUptoRow : OpenClaim := { program := "ytpdidgacmikllaa", sum := "9827b5313562640ca91176652f2b133624aed5176c847f535dfdc54f7aa77bca", func := "weft/weftlaw07.TarjanMore", spec := "tarjanMore", unfollowed := true, recurses := true, apart := false, narrowed := true }
def TarjanMoreUptoSaid : Prop := tarjanMoreUptoRow.holds Try.pinned (OpenSpec.upto tarjanMoreSpec)

/-- 'weftlaw07.TarjanTurned', WHERE WHAT IT READS IS OF BULK AT MOST 1048576: true; the input reads as it did. -/
def tarjanTurnedUptoRow : OpenClaim := { program := "ytpdidgacmikllaa", sum := "9827b5313562640ca91176652f2b133624aed5176c847f535dfdc54f7aa77bca", func := "weft/weftlaw07.TarjanTurned", spec := "tarjanTurned", unfollowed := true, recurses := true, apart := false, narrowed := true }
def TarjanTurnedUptoSaid : Prop := tarjanTurnedUptoRow.holds Try.pinned (OpenSpec.upto tarjanTurnedSpec)

end Rows
end Go.Proofs.Ytpdidgacmikllaa
