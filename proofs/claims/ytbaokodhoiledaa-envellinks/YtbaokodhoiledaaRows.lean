/-
  No cell of these rows narrows 'for every input' (looked for: loops, veiled, ifaces, maps, wideKeys, modest, calm, conditions, laid).
  DERIVED. THE GIVEN ROWS OF THIS SEAT. 4 by the template 'for every input the law returns true; each argument reads behind the call as it read before'; 0 by the template 'total and deterministic' (their statements: YtbaokodhoiledaaTotals.lean).
  GIVEN WITH THE SEED: the statements are not yours to turn. If you find one false, say at which input.
  Laid BY PROGRAM, IN A SANDBOX (cutbox-rows.mjs): the forced cells as the released guide's own fill.sh prints them over the translation 9d020825e0e6bcc2… (all of the seat's roots in one cut). By AI agents, Wed Nov 11 2026. No macro, syntax, notation, axiom, sorry.
-/
import Derived.Test.YtbaokodhoiledaaChecked
import GoSem.Claim
import GoSem.ClaimJoined
import GoSem.ClaimMapViews
import Derived.JoinedTies
import Derived.KernelRfl
namespace Go.Proofs.Ytbaokodhoiledaa
/- THE CELL 'sum', in the pinned program and in every row, IS THE sha256 OF THE DUMP (.gsa) THAT YtbaokodhoiledaaProg.lean LOADS. Nothing in Lean hashes anything: it is a label: what it is worth is what the hold of that sum in a sandbox is worth. -/
noncomputable def Try.pinned : Pinned := { name := "ytbaokodhoiledaa", sum := "9d020825e0e6bcc26289ffa5fc19a8bff32eea06df7dce53c2fea477e3d6e803", checked := Try.checked }
namespace Rows
def none {H : Type} : Left H := { results := [], args := [] }

/-- 'tabulariumlaw09.EnvelLinks': WHATEVER THE INPUT: true; the input reads as it did. -/
def envelLinksSpec : ChangeSpec := { name := "envelLinks", fn := fun _ => fun
  | [d] => { results := [.lit (.bool true)], args := [d] }
  | _ => none }
def envelLinksRow : OpenClaim := { program := "ytbaokodhoiledaa", sum := "9d020825e0e6bcc26289ffa5fc19a8bff32eea06df7dce53c2fea477e3d6e803", func := "tabularium/tabulariumlaw09.EnvelLinks", spec := "envelLinks", inPlace := ["internal/bytealg.Compare"], unfollowed := true, recurses := true, apart := false }
def EnvelLinksSaid : Prop := envelLinksRow.holds Try.pinned (OpenSpec.ofChange envelLinksSpec)

/-- ITS FALSE NEIGHBOUR: 'it returns false'. Refute it at one input. -/
def envelLinksWrong : ChangeSpec := { name := "envelLinks", fn := fun _ => fun
  | [d] => { results := [.lit (.bool false)], args := [d] }
  | _ => none }
def EnvelLinksWrongFalsely : Prop := envelLinksRow.holds Try.pinned (OpenSpec.ofChange envelLinksWrong)

/-- 'tabulariumlaw09.EnvelPuts': WHATEVER THE INPUT: true; the input reads as it did. -/
def envelPutsSpec : ChangeSpec := { name := "envelPuts", fn := fun _ => fun
  | [d] => { results := [.lit (.bool true)], args := [d] }
  | _ => none }
def envelPutsRow : OpenClaim := { program := "ytbaokodhoiledaa", sum := "9d020825e0e6bcc26289ffa5fc19a8bff32eea06df7dce53c2fea477e3d6e803", func := "tabularium/tabulariumlaw09.EnvelPuts", spec := "envelPuts", inPlace := ["internal/bytealg.Compare"], unfollowed := true, recurses := true, apart := false }
def EnvelPutsSaid : Prop := envelPutsRow.holds Try.pinned (OpenSpec.ofChange envelPutsSpec)

/-- ITS FALSE NEIGHBOUR: 'it returns false'. Refute it at one input. -/
def envelPutsWrong : ChangeSpec := { name := "envelPuts", fn := fun _ => fun
  | [d] => { results := [.lit (.bool false)], args := [d] }
  | _ => none }
def EnvelPutsWrongFalsely : Prop := envelPutsRow.holds Try.pinned (OpenSpec.ofChange envelPutsWrong)

/-- 'tabulariumlaw09.EnvelReads': WHATEVER THE INPUT: true; the input reads as it did. -/
def envelReadsSpec : ChangeSpec := { name := "envelReads", fn := fun _ => fun
  | [d] => { results := [.lit (.bool true)], args := [d] }
  | _ => none }
def envelReadsRow : OpenClaim := { program := "ytbaokodhoiledaa", sum := "9d020825e0e6bcc26289ffa5fc19a8bff32eea06df7dce53c2fea477e3d6e803", func := "tabularium/tabulariumlaw09.EnvelReads", spec := "envelReads", inPlace := ["internal/bytealg.Compare"], unfollowed := true, recurses := true, apart := false }
def EnvelReadsSaid : Prop := envelReadsRow.holds Try.pinned (OpenSpec.ofChange envelReadsSpec)

/-- ITS FALSE NEIGHBOUR: 'it returns false'. Refute it at one input. -/
def envelReadsWrong : ChangeSpec := { name := "envelReads", fn := fun _ => fun
  | [d] => { results := [.lit (.bool false)], args := [d] }
  | _ => none }
def EnvelReadsWrongFalsely : Prop := envelReadsRow.holds Try.pinned (OpenSpec.ofChange envelReadsWrong)

/-- 'tabulariumlaw09.EnvelBack': WHATEVER THE INPUT: true; the input reads as it did. -/
def envelBackSpec : ChangeSpec := { name := "envelBack", fn := fun _ => fun
  | [d1, d2] => { results := [.lit (.bool true)], args := [d1, d2] }
  | _ => none }
def envelBackRow : OpenClaim := { program := "ytbaokodhoiledaa", sum := "9d020825e0e6bcc26289ffa5fc19a8bff32eea06df7dce53c2fea477e3d6e803", func := "tabularium/tabulariumlaw09.EnvelBack", spec := "envelBack", inPlace := ["internal/bytealg.Compare"], unfollowed := true, recurses := true, apart := false }
def EnvelBackSaid : Prop := envelBackRow.holds Try.pinned (OpenSpec.ofChange envelBackSpec)

/-- ITS FALSE NEIGHBOUR: 'it returns false'. Refute it at one input. -/
def envelBackWrong : ChangeSpec := { name := "envelBack", fn := fun _ => fun
  | [d1, d2] => { results := [.lit (.bool false)], args := [d1, d2] }
  | _ => none }
def EnvelBackWrongFalsely : Prop := envelBackRow.holds Try.pinned (OpenSpec.ofChange envelBackWrong)

/- THE SECOND FORM. 'bulk': how many values and letters a reading holds, each counted each time it is reached (what is shared counts as often as it is met; a slice's spare places count too). A statement '..UptoSaid' is the law's where the arguments, and the package variables that the reading takes, are together of bulk at most 1048576: NARROWER than '..Said'. Prove '..Said' where nothing that the law and all that it calls make is longer than what came in: it says more and counts as full. Else prove '..UptoSaid'. A law counts once. -/
mutual
def uptoBulk {H : Type} : DataW H → Nat
  | .lit (.string bytes) => bytes.length + 1
  | .lit _ => 1
  | .nil => 1
  | .ptr d => uptoBulk d + 1
  | .slice elems spare => uptoBulkAll elems + uptoBulkAll spare + 1
  | .agg parts => uptoBulkAll parts + 1
  | .iface _ d => uptoBulk d + 1
  | .map entries => uptoBulkEntries entries + 1
  | .held _ => 1
def uptoBulkAll {H : Type} : List (DataW H) → Nat
  | [] => 0
  | d :: r => uptoBulk d + uptoBulkAll r
def uptoBulkEntries {H : Type} : List (Lit × DataW H) → Nat
  | [] => 0
  | x :: r => uptoBulkEntry x + uptoBulkEntries r
def uptoBulkEntry {H : Type} : Lit × DataW H → Nat
  | (.string bytes, d) => bytes.length + uptoBulk d + 1
  | (_, d) => uptoBulk d + 1
 end
def uptoSmall : (H : Type) → List (DataW H) → Bool := fun _ ds => decide (uptoBulkAll ds ≤ 1048576)
def OpenSpec.upto (s : _root_.Go.ChangeSpec) : _root_.Go.OpenSpec := { _root_.Go.OpenSpec.ofChange s with cond := some uptoSmall }

/-- 'tabulariumlaw09.EnvelLinks', WHERE WHAT IT READS IS OF BULK AT MOST 1048576: true; the input reads as it did. -/
def envelLinksUptoRow : OpenClaim := { program := "ytbaokodhoiledaa", sum := "9d020825e0e6bcc26289ffa5fc19a8bff32eea06df7dce53c2fea477e3d6e803", func := "tabularium/tabulariumlaw09.EnvelLinks", spec := "envelLinks", inPlace := ["internal/bytealg.Compare"], unfollowed := true, recurses := true, apart := false, narrowed := true }
def EnvelLinksUptoSaid : Prop := envelLinksUptoRow.holds Try.pinned (OpenSpec.upto envelLinksSpec)

/-- 'tabulariumlaw09.EnvelPuts', WHERE WHAT IT READS IS OF BULK AT MOST 1048576: true; the input reads as it did. -/
def envelPutsUptoRow : OpenClaim := { program := "ytbaokodhoiledaa", sum := "9d020825e0e6bcc26289ffa5fc19a8bff32eea06df7dce53c2fea477e3d6e803", func := "tabularium/tabulariumlaw09.EnvelPuts", spec := "envelPuts", inPlace := ["internal/bytealg.Compare"], unfollowed := true, recurses := true, apart := false, narrowed := true }
def EnvelPutsUptoSaid : Prop := envelPutsUptoRow.holds Try.pinned (OpenSpec.upto envelPutsSpec)

/-- 'tabulariumlaw09.EnvelReads', WHERE WHAT IT READS IS OF BULK AT MOST 1048576: true; the input reads as it did. -/
def envelReadsUptoRow : OpenClaim := { program := "ytbaokodhoiledaa", sum := "9d020825e0e6bcc26289ffa5fc19a8bff32eea06df7dce53c2fea477e3d6e803", func := "tabularium/tabulariumlaw09.EnvelReads", spec := "envelReads", inPlace := ["internal/bytealg.Compare"], unfollowed := true, recurses := true, apart := false, narrowed := true }
def EnvelReadsUptoSaid : Prop := envelReadsUptoRow.holds Try.pinned (OpenSpec.upto envelReadsSpec)

/-- 'tabulariumlaw09.EnvelBack', WHERE WHAT IT READS IS OF BULK AT MOST 1048576: true; the input reads as it did. -/
def envelBackUptoRow : OpenClaim := { program := "ytbaokodhoiledaa", sum := "9d020825e0e6bcc26289ffa5fc19a8bff32eea06df7dce53c2fea477e3d6e803", func := "tabularium/tabulariumlaw09.EnvelBack", spec := "envelBack", inPlace := ["internal/bytealg.Compare"], unfollowed := true, recurses := true, apart := false, narrowed := true }
def EnvelBackUptoSaid : Prop := envelBackUptoRow.holds Try.pinned (OpenSpec.upto envelBackSpec)

end Rows
end Go.Proofs.Ytbaokodhoiledaa
