/-
  No cell of these rows narrows 'for every input' (looked for: loops, veiled, ifaces, maps, wideKeys, modest, calm, conditions, laid).
  DERIVED. THE GIVEN ROWS OF THIS SEAT. 4 by the template 'for every input the law returns true; each argument reads behind the call as it read before'; 0 by the template 'total and deterministic' (their statements: YtkhhlcjjdkldjaaTotals.lean).
  GIVEN WITH THE SEED: the statements are not yours to turn. If you find one false, say at which input.
  Laid BY PROGRAM, IN A SANDBOX (cutbox-rows.mjs): the forced cells as the released guide's own fill.sh prints them over the translation fa6be03d1f6545aa… (all of the seat's roots in one cut). By AI agents, Wed Nov 11 2026. No macro, syntax, notation, axiom, sorry.
-/
import Derived.Test.YtkhhlcjjdkldjaaChecked
import GoSem.Claim
import GoSem.ClaimJoined
import GoSem.ClaimMapViews
import Derived.JoinedTies
import Derived.KernelRfl
namespace Go.Proofs.Ytkhhlcjjdkldjaa
/- THE CELL 'sum', in the pinned program and in every row, IS THE sha256 OF THE DUMP (.gsa) THAT YtkhhlcjjdkldjaaProg.lean LOADS. Nothing in Lean hashes anything: it is a label: what it is worth is what the hold of that sum in a sandbox is worth. -/
noncomputable def Try.pinned : Pinned := { name := "ytkhhlcjjdkldjaa", sum := "fa6be03d1f6545aa8514a99200c6303ba4fe8cb25590b2c3e11a32b04872ae10", checked := Try.checked }
namespace Rows
def none {H : Type} : Left H := { results := [], args := [] }

/-- 'tabulariumlaw12.CmtPuts': WHATEVER THE INPUT: true; the input reads as it did. -/
def cmtPutsSpec : ChangeSpec := { name := "cmtPuts", fn := fun _ => fun
  | [d] => { results := [.lit (.bool true)], args := [d] }
  | _ => none }
def cmtPutsRow : OpenClaim := { program := "ytkhhlcjjdkldjaa", sum := "fa6be03d1f6545aa8514a99200c6303ba4fe8cb25590b2c3e11a32b04872ae10", func := "tabularium/tabulariumlaw12.CmtPuts", spec := "cmtPuts", inPlace := ["internal/bytealg.Compare"], unfollowed := true, recurses := true, apart := false }
def CmtPutsSaid : Prop := cmtPutsRow.holds Try.pinned (OpenSpec.ofChange cmtPutsSpec)

/-- ITS FALSE NEIGHBOUR: 'it returns false'. Refute it at one input. -/
def cmtPutsWrong : ChangeSpec := { name := "cmtPuts", fn := fun _ => fun
  | [d] => { results := [.lit (.bool false)], args := [d] }
  | _ => none }
def CmtPutsWrongFalsely : Prop := cmtPutsRow.holds Try.pinned (OpenSpec.ofChange cmtPutsWrong)

/-- 'tabulariumlaw12.CmtReads': WHATEVER THE INPUT: true; the input reads as it did. -/
def cmtReadsSpec : ChangeSpec := { name := "cmtReads", fn := fun _ => fun
  | [d] => { results := [.lit (.bool true)], args := [d] }
  | _ => none }
def cmtReadsRow : OpenClaim := { program := "ytkhhlcjjdkldjaa", sum := "fa6be03d1f6545aa8514a99200c6303ba4fe8cb25590b2c3e11a32b04872ae10", func := "tabularium/tabulariumlaw12.CmtReads", spec := "cmtReads", unfollowed := true, recurses := true, apart := false }
def CmtReadsSaid : Prop := cmtReadsRow.holds Try.pinned (OpenSpec.ofChange cmtReadsSpec)

/-- ITS FALSE NEIGHBOUR: 'it returns false'. Refute it at one input. -/
def cmtReadsWrong : ChangeSpec := { name := "cmtReads", fn := fun _ => fun
  | [d] => { results := [.lit (.bool false)], args := [d] }
  | _ => none }
def CmtReadsWrongFalsely : Prop := cmtReadsRow.holds Try.pinned (OpenSpec.ofChange cmtReadsWrong)

/-- 'tabulariumlaw12.CmtBack': WHATEVER THE INPUT: true; the input reads as it did. -/
def cmtBackSpec : ChangeSpec := { name := "cmtBack", fn := fun _ => fun
  | [d1, d2] => { results := [.lit (.bool true)], args := [d1, d2] }
  | _ => none }
def cmtBackRow : OpenClaim := { program := "ytkhhlcjjdkldjaa", sum := "fa6be03d1f6545aa8514a99200c6303ba4fe8cb25590b2c3e11a32b04872ae10", func := "tabularium/tabulariumlaw12.CmtBack", spec := "cmtBack", unfollowed := true, recurses := true, apart := false }
def CmtBackSaid : Prop := cmtBackRow.holds Try.pinned (OpenSpec.ofChange cmtBackSpec)

/-- ITS FALSE NEIGHBOUR: 'it returns false'. Refute it at one input. -/
def cmtBackWrong : ChangeSpec := { name := "cmtBack", fn := fun _ => fun
  | [d1, d2] => { results := [.lit (.bool false)], args := [d1, d2] }
  | _ => none }
def CmtBackWrongFalsely : Prop := cmtBackRow.holds Try.pinned (OpenSpec.ofChange cmtBackWrong)

/-- 'tabulariumlaw12.CmtTells': WHATEVER THE INPUT: true; the input reads as it did. -/
def cmtTellsSpec : ChangeSpec := { name := "cmtTells", fn := fun _ => fun
  | [d1, d2, d3] => { results := [.lit (.bool true)], args := [d1, d2, d3] }
  | _ => none }
def cmtTellsRow : OpenClaim := { program := "ytkhhlcjjdkldjaa", sum := "fa6be03d1f6545aa8514a99200c6303ba4fe8cb25590b2c3e11a32b04872ae10", func := "tabularium/tabulariumlaw12.CmtTells", spec := "cmtTells", apart := false }
def CmtTellsSaid : Prop := cmtTellsRow.holds Try.pinned (OpenSpec.ofChange cmtTellsSpec)

/-- ITS FALSE NEIGHBOUR: 'it returns false'. Refute it at one input. -/
def cmtTellsWrong : ChangeSpec := { name := "cmtTells", fn := fun _ => fun
  | [d1, d2, d3] => { results := [.lit (.bool false)], args := [d1, d2, d3] }
  | _ => none }
def CmtTellsWrongFalsely : Prop := cmtTellsRow.holds Try.pinned (OpenSpec.ofChange cmtTellsWrong)

/- THE SECOND FORM. 'bulk': how many values and letters a reading holds, each counted each time it is reached (what is shared counts as often as it is met; a slice's spare places count too). A statement '..UptoSaid' is the law's where the arguments, and the package variables that the reading takes, are together of bulk at most 1048576: NARROWER than '..Said'. Prove '..Said' where nothing that the law and all that it calls make is longer than what came in: it says more and counts as full. Else prove '..UptoSaid'. A law counts once. -/
mutual
def uptoBulk {H : Type} : DataW H → Nat
  | .lit (.string bytes) => bytes.length + 1
  | .lit _ => 1
  | .nil => 1
  | .ptr d => uptoBulk d + 1
  | .slice elems spare => uptoBulkAll elems + uptoBulkAll spare + 1
  | .agg parts => uptoBulkAll parts + 1
  | .iface _ d => uptoBulk d + 1
  | .map entries => uptoBulkEntries entries + 1
  | .held _ => 1
def uptoBulkAll {H : Type} : List (DataW H) → Nat
  | [] => 0
  | d :: r => uptoBulk d + uptoBulkAll r
def uptoBulkEntries {H : Type} : List (Lit × DataW H) → Nat
  | [] => 0
  | x :: r => uptoBulkEntry x + uptoBulkEntries r
def uptoBulkEntry {H : Type} : Lit × DataW H → Nat
  | (.string bytes, d) => bytes.length + uptoBulk d + 1
  | (_, d) => uptoBulk d + 1
 end
def uptoSmall : (H : Type) → List (DataW H) → Bool := fun _ ds => decide (uptoBulkAll ds ≤ 1048576)
def OpenSpec.upto (s : _root_.Go.ChangeSpec) : _root_.Go.OpenSpec := { _root_.Go.OpenSpec.ofChange s with cond := some uptoSmall }

/-- 'tabulariumlaw12.CmtPuts', WHERE WHAT IT READS IS OF BULK AT MOST 1048576: true; the input reads as it did. -/
def cmtPutsUptoRow : OpenClaim := { program := "ytkhhlcjjdkldjaa", sum := "fa6be03d1f6545aa8514a99200c6303ba4fe8cb25590b2c3e11a32b04872ae10", func := "tabularium/tabulariumlaw12.CmtPuts", spec := "cmtPuts", inPlace := ["internal/bytealg.Compare"], unfollowed := true, recurses := true, apart := false, narrowed := true }
def CmtPutsUptoSaid : Prop := cmtPutsUptoRow.holds Try.pinned (OpenSpec.upto cmtPutsSpec)

/-- 'tabulariumlaw12.CmtReads', WHERE WHAT IT READS IS OF BULK AT MOST 1048576: true; the input reads as it did. -/
def cmtReadsUptoRow : OpenClaim := { program := "ytkhhlcjjdkldjaa", sum := "fa6be03d1f6545aa8514a99200c6303ba4fe8cb25590b2c3e11a32b04872ae10", func := "tabularium/tabulariumlaw12.CmtReads", spec := "cmtReads", unfollowed := true, recurses := true, apart := false, narrowed := true }
def CmtReadsUptoSaid : Prop := cmtReadsUptoRow.holds Try.pinned (OpenSpec.upto cmtReadsSpec)

/-- 'tabulariumlaw12.CmtBack', WHERE WHAT IT READS IS OF BULK AT MOST 1048576: true; the input reads as it did. -/
def cmtBackUptoRow : OpenClaim := { program := "ytkhhlcjjdkldjaa", sum := "fa6be03d1f6545aa8514a99200c6303ba4fe8cb25590b2c3e11a32b04872ae10", func := "tabularium/tabulariumlaw12.CmtBack", spec := "cmtBack", unfollowed := true, recurses := true, apart := false, narrowed := true }
def CmtBackUptoSaid : Prop := cmtBackUptoRow.holds Try.pinned (OpenSpec.upto cmtBackSpec)

/-- 'tabulariumlaw12.CmtTells', WHERE WHAT IT READS IS OF BULK AT MOST 1048576: true; the input reads as it did. -/
def cmtTellsUptoRow : OpenClaim := { program := "ytkhhlcjjdkldjaa", sum := "fa6be03d1f6545aa8514a99200c6303ba4fe8cb25590b2c3e11a32b04872ae10", func := "tabularium/tabulariumlaw12.CmtTells", spec := "cmtTells", apart := false, narrowed := true }
def CmtTellsUptoSaid : Prop := cmtTellsUptoRow.holds Try.pinned (OpenSpec.upto cmtTellsSpec)

end Rows
end Go.Proofs.Ytkhhlcjjdkldjaa
