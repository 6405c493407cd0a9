/-
  No cell of these rows narrows 'for every input' (looked for: loops, veiled, ifaces, maps, wideKeys, modest, calm, conditions, laid).
  DERIVED. THE GIVEN ROWS OF THIS SEAT. 6 by the template 'for every input the law returns true; each argument reads behind the call as it read before'; 0 by the template 'total and deterministic' (their statements: YtehieiddelngfaaTotals.lean).
  GIVEN WITH THE SEED: the statements are not yours to turn. If you find one false, say at which input.
  Laid BY PROGRAM, IN A SANDBOX (cutbox-rows.mjs): the forced cells as the released guide's own fill.sh prints them over the translation f8457df03f6f1fc6… (all of the seat's roots in one cut). By AI agents, Wed Nov 11 2026. No macro, syntax, notation, axiom, sorry.
-/
import Derived.Test.YtehieiddelngfaaChecked
import GoSem.Claim
import GoSem.ClaimJoined
import GoSem.ClaimMapViews
import Derived.JoinedTies
import Derived.KernelRfl
namespace Go.Proofs.Ytehieiddelngfaa
/- THE CELL 'sum', in the pinned program and in every row, IS THE sha256 OF THE DUMP (.gsa) THAT YtehieiddelngfaaProg.lean LOADS. Nothing in Lean hashes anything: it is a label: what it is worth is what the hold of that sum in a sandbox is worth. -/
noncomputable def Try.pinned : Pinned := { name := "ytehieiddelngfaa", sum := "f8457df03f6f1fc607ea981837380c9abcdc29a3f5145b3873b4e7348b51f2c8", checked := Try.checked }
namespace Rows
def none {H : Type} : Left H := { results := [], args := [] }

/-- 'weftlaw05.InternTexts': WHATEVER THE INPUT: true; the input reads as it did. -/
def internTextsSpec : ChangeSpec := { name := "internTexts", fn := fun _ => fun
  | [d1, d2, d3] => { results := [.lit (.bool true)], args := [d1, d2, d3] }
  | _ => none }
def internTextsRow : OpenClaim := { program := "ytehieiddelngfaa", sum := "f8457df03f6f1fc607ea981837380c9abcdc29a3f5145b3873b4e7348b51f2c8", func := "weft/weftlaw05.InternTexts", spec := "internTexts", unfollowed := true, recurses := true, apart := false }
def InternTextsSaid : Prop := internTextsRow.holds Try.pinned (OpenSpec.ofChange internTextsSpec)

/-- ITS FALSE NEIGHBOUR: 'it returns false'. Refute it at one input. -/
def internTextsWrong : ChangeSpec := { name := "internTexts", fn := fun _ => fun
  | [d1, d2, d3] => { results := [.lit (.bool false)], args := [d1, d2, d3] }
  | _ => none }
def InternTextsWrongFalsely : Prop := internTextsRow.holds Try.pinned (OpenSpec.ofChange internTextsWrong)

/-- 'weftlaw05.InternSorts': WHATEVER THE INPUT: true; the input reads as it did. -/
def internSortsSpec : ChangeSpec := { name := "internSorts", fn := fun _ => fun
  | [d] => { results := [.lit (.bool true)], args := [d] }
  | _ => none }
def internSortsRow : OpenClaim := { program := "ytehieiddelngfaa", sum := "f8457df03f6f1fc607ea981837380c9abcdc29a3f5145b3873b4e7348b51f2c8", func := "weft/weftlaw05.InternSorts", spec := "internSorts", unfollowed := true, recurses := true, apart := false }
def InternSortsSaid : Prop := internSortsRow.holds Try.pinned (OpenSpec.ofChange internSortsSpec)

/-- ITS FALSE NEIGHBOUR: 'it returns false'. Refute it at one input. -/
def internSortsWrong : ChangeSpec := { name := "internSorts", fn := fun _ => fun
  | [d] => { results := [.lit (.bool false)], args := [d] }
  | _ => none }
def InternSortsWrongFalsely : Prop := internSortsRow.holds Try.pinned (OpenSpec.ofChange internSortsWrong)

/-- 'weftlaw05.InternOne': WHATEVER THE INPUT: true; the input reads as it did. -/
def internOneSpec : ChangeSpec := { name := "internOne", fn := fun _ => fun
  | [d1, d2] => { results := [.lit (.bool true)], args := [d1, d2] }
  | _ => none }
def internOneRow : OpenClaim := { program := "ytehieiddelngfaa", sum := "f8457df03f6f1fc607ea981837380c9abcdc29a3f5145b3873b4e7348b51f2c8", func := "weft/weftlaw05.InternOne", spec := "internOne", unfollowed := true, recurses := true, apart := false }
def InternOneSaid : Prop := internOneRow.holds Try.pinned (OpenSpec.ofChange internOneSpec)

/-- ITS FALSE NEIGHBOUR: 'it returns false'. Refute it at one input. -/
def internOneWrong : ChangeSpec := { name := "internOne", fn := fun _ => fun
  | [d1, d2] => { results := [.lit (.bool false)], args := [d1, d2] }
  | _ => none }
def InternOneWrongFalsely : Prop := internOneRow.holds Try.pinned (OpenSpec.ofChange internOneWrong)

/-- 'weftlaw09.TokenAll': WHATEVER THE INPUT: true; the input reads as it did. -/
def tokenAllSpec : ChangeSpec := { name := "tokenAll", fn := fun _ => fun
  | [d] => { results := [.lit (.bool true)], args := [d] }
  | _ => none }
def tokenAllRow : OpenClaim := { program := "ytehieiddelngfaa", sum := "f8457df03f6f1fc607ea981837380c9abcdc29a3f5145b3873b4e7348b51f2c8", func := "weft/weftlaw09.TokenAll", spec := "tokenAll", inPlace := ["internal/bytealg.IndexByteString", "internal/bytealg.IndexString", "internal/abi.NoEscape", "internal/bytealg.MakeNoZero"], unfollowed := true, recurses := true, named := ["internal/bytealg.MaxLen"], apart := false }
def TokenAllSaid : Prop := tokenAllRow.holds Try.pinned (OpenSpec.ofChange tokenAllSpec)

/-- ITS FALSE NEIGHBOUR: 'it returns false'. Refute it at one input. -/
def tokenAllWrong : ChangeSpec := { name := "tokenAll", fn := fun _ => fun
  | [d] => { results := [.lit (.bool false)], args := [d] }
  | _ => none }
def TokenAllWrongFalsely : Prop := tokenAllRow.holds Try.pinned (OpenSpec.ofChange tokenAllWrong)

/-- 'weftlaw09.TokenJoins': WHATEVER THE INPUT: true; the input reads as it did. -/
def tokenJoinsSpec : ChangeSpec := { name := "tokenJoins", fn := fun _ => fun
  | [d] => { results := [.lit (.bool true)], args := [d] }
  | _ => none }
def tokenJoinsRow : OpenClaim := { program := "ytehieiddelngfaa", sum := "f8457df03f6f1fc607ea981837380c9abcdc29a3f5145b3873b4e7348b51f2c8", func := "weft/weftlaw09.TokenJoins", spec := "tokenJoins", inPlace := ["internal/abi.NoEscape", "internal/bytealg.MakeNoZero", "internal/bytealg.IndexByteString", "internal/bytealg.IndexString"], unfollowed := true, recurses := true, named := ["internal/bytealg.MaxLen"], apart := false }
def TokenJoinsSaid : Prop := tokenJoinsRow.holds Try.pinned (OpenSpec.ofChange tokenJoinsSpec)

/-- ITS FALSE NEIGHBOUR: 'it returns false'. Refute it at one input. -/
def tokenJoinsWrong : ChangeSpec := { name := "tokenJoins", fn := fun _ => fun
  | [d] => { results := [.lit (.bool false)], args := [d] }
  | _ => none }
def TokenJoinsWrongFalsely : Prop := tokenJoinsRow.holds Try.pinned (OpenSpec.ofChange tokenJoinsWrong)

/-- 'weftlaw09.TokenBack': WHATEVER THE INPUT: true; the input reads as it did. -/
def tokenBackSpec : ChangeSpec := { name := "tokenBack", fn := fun _ => fun
  | [d1, d2] => { results := [.lit (.bool true)], args := [d1, d2] }
  | _ => none }
def tokenBackRow : OpenClaim := { program := "ytehieiddelngfaa", sum := "f8457df03f6f1fc607ea981837380c9abcdc29a3f5145b3873b4e7348b51f2c8", func := "weft/weftlaw09.TokenBack", spec := "tokenBack", inPlace := ["internal/bytealg.IndexByteString", "internal/bytealg.IndexString", "internal/abi.NoEscape", "internal/bytealg.MakeNoZero"], unfollowed := true, recurses := true, named := ["internal/bytealg.MaxLen"], apart := false }
def TokenBackSaid : Prop := tokenBackRow.holds Try.pinned (OpenSpec.ofChange tokenBackSpec)

/-- ITS FALSE NEIGHBOUR: 'it returns false'. Refute it at one input. -/
def tokenBackWrong : ChangeSpec := { name := "tokenBack", fn := fun _ => fun
  | [d1, d2] => { results := [.lit (.bool false)], args := [d1, d2] }
  | _ => none }
def TokenBackWrongFalsely : Prop := tokenBackRow.holds Try.pinned (OpenSpec.ofChange tokenBackWrong)

/- THE SECOND FORM. 'bulk': how many values and letters a reading holds, each counted each time it is reached (what is shared counts as often as it is met; a slice's spare places count too). A statement '..UptoSaid' is the law's where the arguments, and the package variables that the reading takes, are together of bulk at most 1048576: NARROWER than '..Said'. Prove '..Said' where nothing that the law and all that it calls make is longer than what came in: it says more and counts as full. Else prove '..UptoSaid'. A law counts once. -/
mutual
def uptoBulk {H : Type} : DataW H → Nat
  | .lit (.string bytes) => bytes.length + 1
  | .lit _ => 1
  | .nil => 1
  | .ptr d => uptoBulk d + 1
  | .slice elems spare => uptoBulkAll elems + uptoBulkAll spare + 1
  | .agg parts => uptoBulkAll parts + 1
  | .iface _ d => uptoBulk d + 1
  | .map entries => uptoBulkEntries entries + 1
  | .held _ => 1
def uptoBulkAll {H : Type} : List (DataW H) → Nat
  | [] => 0
  | d :: r => uptoBulk d + uptoBulkAll r
def uptoBulkEntries {H : Type} : List (Lit × DataW H) → Nat
  | [] => 0
  | x :: r => uptoBulkEntry x + uptoBulkEntries r
def uptoBulkEntry {H : Type} : Lit × DataW H → Nat
  | (.string bytes, d) => bytes.length + uptoBulk d + 1
  | (_, d) => uptoBulk d + 1
 end
def uptoSmall : (H : Type) → List (DataW H) → Bool := fun _ ds => decide (uptoBulkAll ds ≤ 1048576)
def OpenSpec.upto (s : _root_.Go.ChangeSpec) : _root_.Go.OpenSpec := { _root_.Go.OpenSpec.ofChange s with cond := some uptoSmall }

/-- 'weftlaw05.InternTexts', WHERE WHAT IT READS IS OF BULK AT MOST 1048576: true; the input reads as it did. -/
def internTextsUptoRow : OpenClaim := { program := "ytehieiddelngfaa", sum := "f8457df03f6f1fc607ea981837380c9abcdc29a3f5145b3873b4e7348b51f2c8", func := "weft/weftlaw05.InternTexts", spec := "internTexts", unfollowed := true, recurses := true, apart := false, narrowed := true }
def InternTextsUptoSaid : Prop := internTextsUptoRow.holds Try.pinned (OpenSpec.upto internTextsSpec)

/-- 'weftlaw05.InternSorts', WHERE WHAT IT READS IS OF BULK AT MOST 1048576: true; the input reads as it did. -/
def internSortsUptoRow : OpenClaim := { program := "ytehieiddelngfaa", sum := "f8457df03f6f1fc607ea981837380c9abcdc29a3f5145b3873b4e7348b51f2c8", func := "weft/weftlaw05.InternSorts", spec := "internSorts", unfollowed := true, recurses := true, apart := false, narrowed := true }
def InternSortsUptoSaid : Prop := internSortsUptoRow.holds Try.pinned (OpenSpec.upto internSortsSpec)

/-- 'weftlaw05.InternOne', WHERE WHAT IT READS IS OF BULK AT MOST 1048576: true; the input reads as it did. -/
def internOneUptoRow : OpenClaim := { program := "ytehieiddelngfaa", sum := "f8457df03f6f1fc607ea981837380c9abcdc29a3f5145b3873b4e7348b51f2c8", func := "weft/weftlaw05.InternOne", spec := "internOne", unfollowed := true, recurses := true, apart := false, narrowed := true }
def InternOneUptoSaid : Prop := internOneUptoRow.holds Try.pinned (OpenSpec.upto internOneSpec)

/-- 'weftlaw09.TokenAll', WHERE WHAT IT READS IS OF BULK AT MOST 1048576: true; the input reads as it did. -/
def tokenAllUptoRow : OpenClaim := { program := "ytehieiddelngfaa", sum := "f8457df03f6f1fc607ea981837380c9abcdc29a3f5145b3873b4e7348b51f2c8", func := "weft/weftlaw09.TokenAll", spec := "tokenAll", inPlace := ["internal/bytealg.IndexByteString", "internal/bytealg.IndexString", "internal/abi.NoEscape", "internal/bytealg.MakeNoZero"], unfollowed := true, recurses := true, named := ["internal/bytealg.MaxLen"], apart := false, narrowed := true }
def TokenAllUptoSaid : Prop := tokenAllUptoRow.holds Try.pinned (OpenSpec.upto tokenAllSpec)

/-- 'weftlaw09.TokenJoins', WHERE WHAT IT READS IS OF BULK AT MOST 1048576: true; the input reads as it did. -/
def tokenJoinsUptoRow : OpenClaim := { program := "ytehieiddelngfaa", sum := "f8457df03f6f1fc607ea981837380c9abcdc29a3f5145b3873b4e7348b51f2c8", func := "weft/weftlaw09.TokenJoins", spec := "tokenJoins", inPlace := ["internal/abi.NoEscape", "internal/bytealg.MakeNoZero", "internal/bytealg.IndexByteString", "internal/bytealg.IndexString"], unfollowed := true, recurses := true, named := ["internal/bytealg.MaxLen"], apart := false, narrowed := true }
def TokenJoinsUptoSaid : Prop := tokenJoinsUptoRow.holds Try.pinned (OpenSpec.upto tokenJoinsSpec)

/-- 'weftlaw09.TokenBack', WHERE WHAT IT READS IS OF BULK AT MOST 1048576: true; the input reads as it did. -/
def tokenBackUptoRow : OpenClaim := { program := "ytehieiddelngfaa", sum := "f8457df03f6f1fc607ea981837380c9abcdc29a3f5145b3873b4e7348b51f2c8", func := "weft/weftlaw09.TokenBack", spec := "tokenBack", inPlace := ["internal/bytealg.IndexByteString", "internal/bytealg.IndexString", "internal/abi.NoEscape", "internal/bytealg.MakeNoZero"], unfollowed := true, recurses := true, named := ["internal/bytealg.MaxLen"], apart := false, narrowed := true }
def TokenBackUptoSaid : Prop := tokenBackUptoRow.holds Try.pinned (OpenSpec.upto tokenBackSpec)

end Rows
end Go.Proofs.Ytehieiddelngfaa
