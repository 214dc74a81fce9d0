/-
  No cell of these rows narrows 'for every input' (looked for: loops, veiled, ifaces, maps, wideKeys, modest, calm, conditions, laid).
  DERIVED. THE GIVEN ROWS OF THIS SEAT. 5 by the template 'for every input the law returns true; each argument reads behind the call as it read before'; 0 by the template 'total and deterministic' (their statements: YtlmfdifnkkdpfaaTotals.lean).
  GIVEN WITH THE SEED: the statements are not yours to turn. If you find one false, say at which input.
  Laid BY PROGRAM, IN A SANDBOX (cutbox-rows.mjs): the forced cells as the released guide's own fill.sh prints them over the translation 9f10751df03a7f80… (all of the seat's roots in one cut). By AI agents, Wed Nov 11 2026. No macro, syntax, notation, axiom, sorry.
-/
import Derived.Test.YtlmfdifnkkdpfaaChecked
import GoSem.Claim
import GoSem.ClaimJoined
import GoSem.ClaimMapViews
import Derived.JoinedTies
import Derived.KernelRfl
namespace Go.Proofs.Ytlmfdifnkkdpfaa
/- THE CELL 'sum', in the pinned program and in every row, IS THE sha256 OF THE DUMP (.gsa) THAT YtlmfdifnkkdpfaaProg.lean LOADS. Nothing in Lean hashes anything: it is a label: what it is worth is what the hold of that sum in a sandbox is worth. -/
noncomputable def Try.pinned : Pinned := { name := "ytlmfdifnkkdpfaa", sum := "9f10751df03a7f807f14c37bba5ca4cb0c9b794b4ebd76506e7ebf0e266a36a8", checked := Try.checked }
namespace Rows
def none {H : Type} : Left H := { results := [], args := [] }

/-- 'tabulariumlaw11.DirPuts': WHATEVER THE INPUT: true; the input reads as it did. -/
def dirPutsSpec : ChangeSpec := { name := "dirPuts", fn := fun _ => fun
  | [d] => { results := [.lit (.bool true)], args := [d] }
  | _ => none }
def dirPutsRow : OpenClaim := { program := "ytlmfdifnkkdpfaa", sum := "9f10751df03a7f807f14c37bba5ca4cb0c9b794b4ebd76506e7ebf0e266a36a8", func := "tabularium/tabulariumlaw11.DirPuts", spec := "dirPuts", inPlace := ["internal/bytealg.Compare"], unfollowed := true, recurses := true, apart := false }
def DirPutsSaid : Prop := dirPutsRow.holds Try.pinned (OpenSpec.ofChange dirPutsSpec)

/-- ITS FALSE NEIGHBOUR: 'it returns false'. Refute it at one input. -/
def dirPutsWrong : ChangeSpec := { name := "dirPuts", fn := fun _ => fun
  | [d] => { results := [.lit (.bool false)], args := [d] }
  | _ => none }
def DirPutsWrongFalsely : Prop := dirPutsRow.holds Try.pinned (OpenSpec.ofChange dirPutsWrong)

/-- 'tabulariumlaw11.DirReads': WHATEVER THE INPUT: true; the input reads as it did. -/
def dirReadsSpec : ChangeSpec := { name := "dirReads", fn := fun _ => fun
  | [d] => { results := [.lit (.bool true)], args := [d] }
  | _ => none }
def dirReadsRow : OpenClaim := { program := "ytlmfdifnkkdpfaa", sum := "9f10751df03a7f807f14c37bba5ca4cb0c9b794b4ebd76506e7ebf0e266a36a8", func := "tabularium/tabulariumlaw11.DirReads", spec := "dirReads", inPlace := ["internal/bytealg.Compare"], unfollowed := true, recurses := true, apart := false }
def DirReadsSaid : Prop := dirReadsRow.holds Try.pinned (OpenSpec.ofChange dirReadsSpec)

/-- ITS FALSE NEIGHBOUR: 'it returns false'. Refute it at one input. -/
def dirReadsWrong : ChangeSpec := { name := "dirReads", fn := fun _ => fun
  | [d] => { results := [.lit (.bool false)], args := [d] }
  | _ => none }
def DirReadsWrongFalsely : Prop := dirReadsRow.holds Try.pinned (OpenSpec.ofChange dirReadsWrong)

/-- 'tabulariumlaw11.DirBack': WHATEVER THE INPUT: true; the input reads as it did. -/
def dirBackSpec : ChangeSpec := { name := "dirBack", fn := fun _ => fun
  | [d1, d2] => { results := [.lit (.bool true)], args := [d1, d2] }
  | _ => none }
def dirBackRow : OpenClaim := { program := "ytlmfdifnkkdpfaa", sum := "9f10751df03a7f807f14c37bba5ca4cb0c9b794b4ebd76506e7ebf0e266a36a8", func := "tabularium/tabulariumlaw11.DirBack", spec := "dirBack", inPlace := ["internal/bytealg.Compare"], unfollowed := true, recurses := true, apart := false }
def DirBackSaid : Prop := dirBackRow.holds Try.pinned (OpenSpec.ofChange dirBackSpec)

/-- ITS FALSE NEIGHBOUR: 'it returns false'. Refute it at one input. -/
def dirBackWrong : ChangeSpec := { name := "dirBack", fn := fun _ => fun
  | [d1, d2] => { results := [.lit (.bool false)], args := [d1, d2] }
  | _ => none }
def DirBackWrongFalsely : Prop := dirBackRow.holds Try.pinned (OpenSpec.ofChange dirBackWrong)

/-- 'tabulariumlaw11.DirChanges': WHATEVER THE INPUT: true; the input reads as it did. -/
def dirChangesSpec : ChangeSpec := { name := "dirChanges", fn := fun _ => fun
  | [d1, d2, d3, d4] => { results := [.lit (.bool true)], args := [d1, d2, d3, d4] }
  | _ => none }
def dirChangesRow : OpenClaim := { program := "ytlmfdifnkkdpfaa", sum := "9f10751df03a7f807f14c37bba5ca4cb0c9b794b4ebd76506e7ebf0e266a36a8", func := "tabularium/tabulariumlaw11.DirChanges", spec := "dirChanges", inPlace := ["internal/bytealg.Compare", "slices.overlaps[tabularium/api.Entry]"], unfollowed := true, recurses := true, apart := false }
def DirChangesSaid : Prop := dirChangesRow.holds Try.pinned (OpenSpec.ofChange dirChangesSpec)

/-- ITS FALSE NEIGHBOUR: 'it returns false'. Refute it at one input. -/
def dirChangesWrong : ChangeSpec := { name := "dirChanges", fn := fun _ => fun
  | [d1, d2, d3, d4] => { results := [.lit (.bool false)], args := [d1, d2, d3, d4] }
  | _ => none }
def DirChangesWrongFalsely : Prop := dirChangesRow.holds Try.pinned (OpenSpec.ofChange dirChangesWrong)

/-- 'tabulariumlaw11.DirStays': WHATEVER THE INPUT: true; the input reads as it did. -/
def dirStaysSpec : ChangeSpec := { name := "dirStays", fn := fun _ => fun
  | [d1, d2, d3] => { results := [.lit (.bool true)], args := [d1, d2, d3] }
  | _ => none }
def dirStaysRow : OpenClaim := { program := "ytlmfdifnkkdpfaa", sum := "9f10751df03a7f807f14c37bba5ca4cb0c9b794b4ebd76506e7ebf0e266a36a8", func := "tabularium/tabulariumlaw11.DirStays", spec := "dirStays", inPlace := ["internal/bytealg.Compare", "slices.overlaps[tabularium/api.Entry]"], unfollowed := true, recurses := true, apart := false }
def DirStaysSaid : Prop := dirStaysRow.holds Try.pinned (OpenSpec.ofChange dirStaysSpec)

/-- ITS FALSE NEIGHBOUR: 'it returns false'. Refute it at one input. -/
def dirStaysWrong : ChangeSpec := { name := "dirStays", fn := fun _ => fun
  | [d1, d2, d3] => { results := [.lit (.bool false)], args := [d1, d2, d3] }
  | _ => none }
def DirStaysWrongFalsely : Prop := dirStaysRow.holds Try.pinned (OpenSpec.ofChange dirStaysWrong)

/- THE SECOND FORM. 'bulk': how many values and letters a reading holds, each counted each time it is reached (what is shared counts as often as it is met; a slice's spare places count too). A statement '..UptoSaid' is the law's where the arguments, and the package variables that the reading takes, are together of bulk at most 1048576: NARROWER than '..Said'. Prove '..Said' where nothing that the law and all that it calls make is longer than what came in: it says more and counts as full. Else prove '..UptoSaid'. A law counts once. -/
mutual
def uptoBulk {H : Type} : DataW H → Nat
  | .lit (.string bytes) => bytes.length + 1
  | .lit _ => 1
  | .nil => 1
  | .ptr d => uptoBulk d + 1
  | .slice elems spare => uptoBulkAll elems + uptoBulkAll spare + 1
  | .agg parts => uptoBulkAll parts + 1
  | .iface _ d => uptoBulk d + 1
  | .map entries => uptoBulkEntries entries + 1
  | .held _ => 1
def uptoBulkAll {H : Type} : List (DataW H) → Nat
  | [] => 0
  | d :: r => uptoBulk d + uptoBulkAll r
def uptoBulkEntries {H : Type} : List (Lit × DataW H) → Nat
  | [] => 0
  | x :: r => uptoBulkEntry x + uptoBulkEntries r
def uptoBulkEntry {H : Type} : Lit × DataW H → Nat
  | (.string bytes, d) => bytes.length + uptoBulk d + 1
  | (_, d) => uptoBulk d + 1
 end
def uptoSmall : (H : Type) → List (DataW H) → Bool := fun _ ds => decide (uptoBulkAll ds ≤ 1048576)
def OpenSpec.upto (s : _root_.Go.ChangeSpec) : _root_.Go.OpenSpec := { _root_.Go.OpenSpec.ofChange s with cond := some uptoSmall }

/-- 'tabulariumlaw11.DirPuts', WHERE WHAT IT READS IS OF BULK AT MOST 1048576: true; the input reads as it did. -/
def dirPutsUptoRow : OpenClaim := { program := "ytlmfdifnkkdpfaa", sum := "9f10751df03a7f807f14c37bba5ca4cb0c9b794b4ebd76506e7ebf0e266a36a8", func := "tabularium/tabulariumlaw11.DirPuts", spec := "dirPuts", inPlace := ["internal/bytealg.Compare"], unfollowed := true, recurses := true, apart := false, narrowed := true }
def DirPutsUptoSaid : Prop := dirPutsUptoRow.holds Try.pinned (OpenSpec.upto dirPutsSpec)

/-- 'tabulariumlaw11.DirReads', WHERE WHAT IT READS IS OF BULK AT MOST 1048576: true; the input reads as it did. -/
def dirReadsUptoRow : OpenClaim := { program := "ytlmfdifnkkdpfaa", sum := "9f10751df03a7f807f14c37bba5ca4cb0c9b794b4ebd76506e7ebf0e266a36a8", func := "tabularium/tabulariumlaw11.DirReads", spec := "dirReads", inPlace := ["internal/bytealg.Compare"], unfollowed := true, recurses := true, apart := false, narrowed := true }
def DirReadsUptoSaid : Prop := dirReadsUptoRow.holds Try.pinned (OpenSpec.upto dirReadsSpec)

/-- 'tabulariumlaw11.DirBack', WHERE WHAT IT READS IS OF BULK AT MOST 1048576: true; the input reads as it did. -/
def dirBackUptoRow : OpenClaim := { program := "ytlmfdifnkkdpfaa", sum := "9f10751df03a7f807f14c37bba5ca4cb0c9b794b4ebd76506e7ebf0e266a36a8", func := "tabularium/tabulariumlaw11.DirBack", spec := "dirBack", inPlace := ["internal/bytealg.Compare"], unfollowed := true, recurses := true, apart := false, narrowed := true }
def DirBackUptoSaid : Prop := dirBackUptoRow.holds Try.pinned (OpenSpec.upto dirBackSpec)

/-- 'tabulariumlaw11.DirChanges', WHERE WHAT IT READS IS OF BULK AT MOST 1048576: true; the input reads as it did. -/
def dirChangesUptoRow : OpenClaim := { program := "ytlmfdifnkkdpfaa", sum := "9f10751df03a7f807f14c37bba5ca4cb0c9b794b4ebd76506e7ebf0e266a36a8", func := "tabularium/tabulariumlaw11.DirChanges", spec := "dirChanges", inPlace := ["internal/bytealg.Compare", "slices.overlaps[tabularium/api.Entry]"], unfollowed := true, recurses := true, apart := false, narrowed := true }
def DirChangesUptoSaid : Prop := dirChangesUptoRow.holds Try.pinned (OpenSpec.upto dirChangesSpec)

/-- 'tabulariumlaw11.DirStays', WHERE WHAT IT READS IS OF BULK AT MOST 1048576: true; the input reads as it did. -/
def dirStaysUptoRow : OpenClaim := { program := "ytlmfdifnkkdpfaa", sum := "9f10751df03a7f807f14c37bba5ca4cb0c9b794b4ebd76506e7ebf0e266a36a8", func := "tabularium/tabulariumlaw11.DirStays", spec := "dirStays", inPlace := ["internal/bytealg.Compare", "slices.overlaps[tabularium/api.Entry]"], unfollowed := true, recurses := true, apart := false, narrowed := true }
def DirStaysUptoSaid : Prop := dirStaysUptoRow.holds Try.pinned (OpenSpec.upto dirStaysSpec)

end Rows
end Go.Proofs.Ytlmfdifnkkdpfaa
