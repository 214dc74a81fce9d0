/-
  No cell of these rows narrows 'for every input' (looked for: loops, veiled, ifaces, maps, wideKeys, modest, calm, conditions, laid).
  DERIVED. THE GIVEN ROWS OF THIS SEAT. 4 by the template 'for every input the law returns true; each argument reads behind the call as it read before'; 0 by the template 'total and deterministic' (their statements: YthhjjijnjfbibaaTotals.lean).
  GIVEN WITH THE SEED: the statements are not yours to turn. If you find one false, say at which input.
  Laid BY PROGRAM, IN A SANDBOX (cutbox-rows.mjs): the forced cells as the released guide's own fill.sh prints them over the translation 2294fc7541bc65eb… (all of the seat's roots in one cut). By AI agents, Wed Nov 11 2026. No macro, syntax, notation, axiom, sorry.
-/
import Derived.Test.YthhjjijnjfbibaaChecked
import GoSem.Claim
import GoSem.ClaimJoined
import GoSem.ClaimMapViews
import Derived.JoinedTies
import Derived.KernelRfl
namespace Go.Proofs.Ythhjjijnjfbibaa
/- THE CELL 'sum', in the pinned program and in every row, IS THE sha256 OF THE DUMP (.gsa) THAT YthhjjijnjfbibaaProg.lean LOADS. Nothing in Lean hashes anything: it is a label: what it is worth is what the hold of that sum in a sandbox is worth. -/
noncomputable def Try.pinned : Pinned := { name := "ythhjjijnjfbibaa", sum := "2294fc7541bc65ebf6dfb3a9fe0071e9b1432fa73b45cecb335c2f333014fb2a", checked := Try.checked }
namespace Rows
def none {H : Type} : Left H := { results := [], args := [] }

/-- 'tabulariumlaw01.VecXors': WHATEVER THE INPUT: true; the input reads as it did. -/
def vecXorsSpec : ChangeSpec := { name := "vecXors", fn := fun _ => fun
  | [d1, d2] => { results := [.lit (.bool true)], args := [d1, d2] }
  | _ => none }
def vecXorsRow : OpenClaim := { program := "ythhjjijnjfbibaa", sum := "2294fc7541bc65ebf6dfb3a9fe0071e9b1432fa73b45cecb335c2f333014fb2a", func := "tabularium/tabulariumlaw01.VecXors", spec := "vecXors", unfollowed := true, recurses := true, apart := false }
def VecXorsSaid : Prop := vecXorsRow.holds Try.pinned (OpenSpec.ofChange vecXorsSpec)

/-- ITS FALSE NEIGHBOUR: 'it returns false'. Refute it at one input. -/
def vecXorsWrong : ChangeSpec := { name := "vecXors", fn := fun _ => fun
  | [d1, d2] => { results := [.lit (.bool false)], args := [d1, d2] }
  | _ => none }
def VecXorsWrongFalsely : Prop := vecXorsRow.holds Try.pinned (OpenSpec.ofChange vecXorsWrong)

/-- 'tabulariumlaw01.VecWords': WHATEVER THE INPUT: true; the input reads as it did. -/
def vecWordsSpec : ChangeSpec := { name := "vecWords", fn := fun _ => fun
  | [d1, d2] => { results := [.lit (.bool true)], args := [d1, d2] }
  | _ => none }
def vecWordsRow : OpenClaim := { program := "ythhjjijnjfbibaa", sum := "2294fc7541bc65ebf6dfb3a9fe0071e9b1432fa73b45cecb335c2f333014fb2a", func := "tabularium/tabulariumlaw01.VecWords", spec := "vecWords", unfollowed := true, recurses := true, apart := false }
def VecWordsSaid : Prop := vecWordsRow.holds Try.pinned (OpenSpec.ofChange vecWordsSpec)

/-- ITS FALSE NEIGHBOUR: 'it returns false'. Refute it at one input. -/
def vecWordsWrong : ChangeSpec := { name := "vecWords", fn := fun _ => fun
  | [d1, d2] => { results := [.lit (.bool false)], args := [d1, d2] }
  | _ => none }
def VecWordsWrongFalsely : Prop := vecWordsRow.holds Try.pinned (OpenSpec.ofChange vecWordsWrong)

/-- 'tabulariumlaw01.VecRols': WHATEVER THE INPUT: true; the input reads as it did. -/
def vecRolsSpec : ChangeSpec := { name := "vecRols", fn := fun _ => fun
  | [d1, d2] => { results := [.lit (.bool true)], args := [d1, d2] }
  | _ => none }
def vecRolsRow : OpenClaim := { program := "ythhjjijnjfbibaa", sum := "2294fc7541bc65ebf6dfb3a9fe0071e9b1432fa73b45cecb335c2f333014fb2a", func := "tabularium/tabulariumlaw01.VecRols", spec := "vecRols", unfollowed := true, recurses := true, apart := false }
def VecRolsSaid : Prop := vecRolsRow.holds Try.pinned (OpenSpec.ofChange vecRolsSpec)

/-- ITS FALSE NEIGHBOUR: 'it returns false'. Refute it at one input. -/
def vecRolsWrong : ChangeSpec := { name := "vecRols", fn := fun _ => fun
  | [d1, d2] => { results := [.lit (.bool false)], args := [d1, d2] }
  | _ => none }
def VecRolsWrongFalsely : Prop := vecRolsRow.holds Try.pinned (OpenSpec.ofChange vecRolsWrong)

/-- 'tabulariumlaw01.VecChunks': WHATEVER THE INPUT: true; the input reads as it did. -/
def vecChunksSpec : ChangeSpec := { name := "vecChunks", fn := fun _ => fun
  | [d1, d2, d3] => { results := [.lit (.bool true)], args := [d1, d2, d3] }
  | _ => none }
def vecChunksRow : OpenClaim := { program := "ythhjjijnjfbibaa", sum := "2294fc7541bc65ebf6dfb3a9fe0071e9b1432fa73b45cecb335c2f333014fb2a", func := "tabularium/tabulariumlaw01.VecChunks", spec := "vecChunks", unfollowed := true, recurses := true, apart := false }
def VecChunksSaid : Prop := vecChunksRow.holds Try.pinned (OpenSpec.ofChange vecChunksSpec)

/-- ITS FALSE NEIGHBOUR: 'it returns false'. Refute it at one input. -/
def vecChunksWrong : ChangeSpec := { name := "vecChunks", fn := fun _ => fun
  | [d1, d2, d3] => { results := [.lit (.bool false)], args := [d1, d2, d3] }
  | _ => none }
def VecChunksWrongFalsely : Prop := vecChunksRow.holds Try.pinned (OpenSpec.ofChange vecChunksWrong)

/- THE SECOND FORM. 'bulk': how many values and letters a reading holds, each counted each time it is reached (what is shared counts as often as it is met; a slice's spare places count too). A statement '..UptoSaid' is the law's where the arguments, and the package variables that the reading takes, are together of bulk at most 1048576: NARROWER than '..Said'. Prove '..Said' where nothing that the law and all that it calls make is longer than what came in: it says more and counts as full. Else prove '..UptoSaid'. A law counts once. -/
mutual
def uptoBulk {H : Type} : DataW H → Nat
  | .lit (.string bytes) => bytes.length + 1
  | .lit _ => 1
  | .nil => 1
  | .ptr d => uptoBulk d + 1
  | .slice elems spare => uptoBulkAll elems + uptoBulkAll spare + 1
  | .agg parts => uptoBulkAll parts + 1
  | .iface _ d => uptoBulk d + 1
  | .map entries => uptoBulkEntries entries + 1
  | .held _ => 1
def uptoBulkAll {H : Type} : List (DataW H) → Nat
  | [] => 0
  | d :: r => uptoBulk d + uptoBulkAll r
def uptoBulkEntries {H : Type} : List (Lit × DataW H) → Nat
  | [] => 0
  | x :: r => uptoBulkEntry x + uptoBulkEntries r
def uptoBulkEntry {H : Type} : Lit × DataW H → Nat
  | (.string bytes, d) => bytes.length + uptoBulk d + 1
  | (_, d) => uptoBulk d + 1
 end
def uptoSmall : (H : Type) → List (DataW H) → Bool := fun _ ds => decide (uptoBulkAll ds ≤ 1048576)
def OpenSpec.upto (s : _root_.Go.ChangeSpec) : _root_.Go.OpenSpec := { _root_.Go.OpenSpec.ofChange s with cond := some uptoSmall }

/-- 'tabulariumlaw01.VecXors', WHERE WHAT IT READS IS OF BULK AT MOST 1048576: true; the input reads as it did. -/
def vecXorsUptoRow : OpenClaim := { program := "ythhjjijnjfbibaa", sum := "2294fc7541bc65ebf6dfb3a9fe0071e9b1432fa73b45cecb335c2f333014fb2a", func := "tabularium/tabulariumlaw01.VecXors", spec := "vecXors", unfollowed := true, recurses := true, apart := false, narrowed := true }
def VecXorsUptoSaid : Prop := vecXorsUptoRow.holds Try.pinned (OpenSpec.upto vecXorsSpec)

/-- 'tabulariumlaw01.VecWords', WHERE WHAT IT READS IS OF BULK AT MOST 1048576: true; the input reads as it did. -/
def vecWordsUptoRow : OpenClaim := { program := "ythhjjijnjfbibaa", sum := "2294fc7541bc65ebf6dfb3a9fe0071e9b1432fa73b45cecb335c2f333014fb2a", func := "tabularium/tabulariumlaw01.VecWords", spec := "vecWords", unfollowed := true, recurses := true, apart := false, narrowed := true }
def VecWordsUptoSaid : Prop := vecWordsUptoRow.holds Try.pinned (OpenSpec.upto vecWordsSpec)

/-- 'tabulariumlaw01.VecRols', WHERE WHAT IT READS IS OF BULK AT MOST 1048576: true; the input reads as it did. -/
def vecRolsUptoRow : OpenClaim := { program := "ythhjjijnjfbibaa", sum := "2294fc7541bc65ebf6dfb3a9fe0071e9b1432fa73b45cecb335c2f333014fb2a", func := "tabularium/tabulariumlaw01.VecRols", spec := "vecRols", unfollowed := true, recurses := true, apart := false, narrowed := true }
def VecRolsUptoSaid : Prop := vecRolsUptoRow.holds Try.pinned (OpenSpec.upto vecRolsSpec)

/-- 'tabulariumlaw01.VecChunks', WHERE WHAT IT READS IS OF BULK AT MOST 1048576: true; the input reads as it did. -/
def vecChunksUptoRow : OpenClaim := { program := "ythhjjijnjfbibaa", sum := "2294fc7541bc65ebf6dfb3a9fe0071e9b1432fa73b45cecb335c2f333014fb2a", func := "tabularium/tabulariumlaw01.VecChunks", spec := "vecChunks", unfollowed := true, recurses := true, apart := false, narrowed := true }
def VecChunksUptoSaid : Prop := vecChunksUptoRow.holds Try.pinned (OpenSpec.upto vecChunksSpec)

end Rows
end Go.Proofs.Ythhjjijnjfbibaa
