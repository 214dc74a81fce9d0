/-
  No cell of these rows narrows 'for every input' (looked for: loops, veiled, ifaces, maps, wideKeys, modest, calm, conditions, laid).
  DERIVED. THE GIVEN ROWS OF THIS SEAT. 3 by the template 'for every input the law returns true; each argument reads behind the call as it read before'; 0 by the template 'total and deterministic' (their statements: YtfkhabiahfchaaaTotals.lean).
  GIVEN WITH THE SEED: the statements are not yours to turn. If you find one false, say at which input.
  Laid BY PROGRAM, IN A SANDBOX (cutbox-rows.mjs): the forced cells as the released guide's own fill.sh prints them over the translation 0f9c2d925356f086… (all of the seat's roots in one cut). By AI agents, Wed Nov 11 2026. No macro, syntax, notation, axiom, sorry.
-/
import Derived.Test.YtfkhabiahfchaaaChecked
import GoSem.Claim
import GoSem.ClaimJoined
import GoSem.ClaimMapViews
import Derived.JoinedTies
import Derived.KernelRfl
namespace Go.Proofs.Ytfkhabiahfchaaa
/- THE CELL 'sum', in the pinned program and in every row, IS THE sha256 OF THE DUMP (.gsa) THAT YtfkhabiahfchaaaProg.lean LOADS. Nothing in Lean hashes anything: it is a label: what it is worth is what the hold of that sum in a sandbox is worth. -/
noncomputable def Try.pinned : Pinned := { name := "ytfkhabiahfchaaa", sum := "0f9c2d925356f0867e2b18254d663f67654a47c6f81045240fa76f8d287629fb", checked := Try.checked }
namespace Rows
def none {H : Type} : Left H := { results := [], args := [] }

/-- 'tabulariumlaw06.TapeTakes': WHATEVER THE INPUT: true; the input reads as it did. -/
def tapeTakesSpec : ChangeSpec := { name := "tapeTakes", fn := fun _ => fun
  | [d1, d2] => { results := [.lit (.bool true)], args := [d1, d2] }
  | _ => none }
def tapeTakesRow : OpenClaim := { program := "ytfkhabiahfchaaa", sum := "0f9c2d925356f0867e2b18254d663f67654a47c6f81045240fa76f8d287629fb", func := "tabularium/tabulariumlaw06.TapeTakes", spec := "tapeTakes", apart := false }
def TapeTakesSaid : Prop := tapeTakesRow.holds Try.pinned (OpenSpec.ofChange tapeTakesSpec)

/-- ITS FALSE NEIGHBOUR: 'it returns false'. Refute it at one input. -/
def tapeTakesWrong : ChangeSpec := { name := "tapeTakes", fn := fun _ => fun
  | [d1, d2] => { results := [.lit (.bool false)], args := [d1, d2] }
  | _ => none }
def TapeTakesWrongFalsely : Prop := tapeTakesRow.holds Try.pinned (OpenSpec.ofChange tapeTakesWrong)

/-- 'tabulariumlaw06.TapeClones': WHATEVER THE INPUT: true; the input reads as it did. -/
def tapeClonesSpec : ChangeSpec := { name := "tapeClones", fn := fun _ => fun
  | [d1, d2, d3] => { results := [.lit (.bool true)], args := [d1, d2, d3] }
  | _ => none }
def tapeClonesRow : OpenClaim := { program := "ytfkhabiahfchaaa", sum := "0f9c2d925356f0867e2b18254d663f67654a47c6f81045240fa76f8d287629fb", func := "tabularium/tabulariumlaw06.TapeClones", spec := "tapeClones", apart := false }
def TapeClonesSaid : Prop := tapeClonesRow.holds Try.pinned (OpenSpec.ofChange tapeClonesSpec)

/-- ITS FALSE NEIGHBOUR: 'it returns false'. Refute it at one input. -/
def tapeClonesWrong : ChangeSpec := { name := "tapeClones", fn := fun _ => fun
  | [d1, d2, d3] => { results := [.lit (.bool false)], args := [d1, d2, d3] }
  | _ => none }
def TapeClonesWrongFalsely : Prop := tapeClonesRow.holds Try.pinned (OpenSpec.ofChange tapeClonesWrong)

/-- 'tabulariumlaw06.TapeKeys': WHATEVER THE INPUT: true; the input reads as it did. -/
def tapeKeysSpec : ChangeSpec := { name := "tapeKeys", fn := fun _ => fun
  | [d] => { results := [.lit (.bool true)], args := [d] }
  | _ => none }
def tapeKeysRow : OpenClaim := { program := "ytfkhabiahfchaaa", sum := "0f9c2d925356f0867e2b18254d663f67654a47c6f81045240fa76f8d287629fb", func := "tabularium/tabulariumlaw06.TapeKeys", spec := "tapeKeys", apart := false }
def TapeKeysSaid : Prop := tapeKeysRow.holds Try.pinned (OpenSpec.ofChange tapeKeysSpec)

/-- ITS FALSE NEIGHBOUR: 'it returns false'. Refute it at one input. -/
def tapeKeysWrong : ChangeSpec := { name := "tapeKeys", fn := fun _ => fun
  | [d] => { results := [.lit (.bool false)], args := [d] }
  | _ => none }
def TapeKeysWrongFalsely : Prop := tapeKeysRow.holds Try.pinned (OpenSpec.ofChange tapeKeysWrong)

/- THE SECOND FORM. 'bulk': how many values and letters a reading holds, each counted each time it is reached (what is shared counts as often as it is met; a slice's spare places count too). A statement '..UptoSaid' is the law's where the arguments, and the package variables that the reading takes, are together of bulk at most 1048576: NARROWER than '..Said'. Prove '..Said' where nothing that the law and all that it calls make is longer than what came in: it says more and counts as full. Else prove '..UptoSaid'. A law counts once. -/
mutual
def uptoBulk {H : Type} : DataW H → Nat
  | .lit (.string bytes) => bytes.length + 1
  | .lit _ => 1
  | .nil => 1
  | .ptr d => uptoBulk d + 1
  | .slice elems spare => uptoBulkAll elems + uptoBulkAll spare + 1
  | .agg parts => uptoBulkAll parts + 1
  | .iface _ d => uptoBulk d + 1
  | .map entries => uptoBulkEntries entries + 1
  | .held _ => 1
def uptoBulkAll {H : Type} : List (DataW H) → Nat
  | [] => 0
  | d :: r => uptoBulk d + uptoBulkAll r
def uptoBulkEntries {H : Type} : List (Lit × DataW H) → Nat
  | [] => 0
  | x :: r => uptoBulkEntry x + uptoBulkEntries r
def uptoBulkEntry {H : Type} : Lit × DataW H → Nat
  | (.string bytes, d) => bytes.length + uptoBulk d + 1
  | (_, d) => uptoBulk d + 1
 end
def uptoSmall : (H : Type) → List (DataW H) → Bool := fun _ ds => decide (uptoBulkAll ds ≤ 1048576)
def OpenSpec.upto (s : _root_.Go.ChangeSpec) : _root_.Go.OpenSpec := { _root_.Go.OpenSpec.ofChange s with cond := some uptoSmall }

/-- 'tabulariumlaw06.TapeTakes', WHERE WHAT IT READS IS OF BULK AT MOST 1048576: true; the input reads as it did. -/
def tapeTakesUptoRow : OpenClaim := { program := "ytfkhabiahfchaaa", sum := "0f9c2d925356f0867e2b18254d663f67654a47c6f81045240fa76f8d287629fb", func := "tabularium/tabulariumlaw06.TapeTakes", spec := "tapeTakes", apart := false, narrowed := true }
def TapeTakesUptoSaid : Prop := tapeTakesUptoRow.holds Try.pinned (OpenSpec.upto tapeTakesSpec)

/-- 'tabulariumlaw06.TapeClones', WHERE WHAT IT READS IS OF BULK AT MOST 1048576: true; the input reads as it did. -/
def tapeClonesUptoRow : OpenClaim := { program := "ytfkhabiahfchaaa", sum := "0f9c2d925356f0867e2b18254d663f67654a47c6f81045240fa76f8d287629fb", func := "tabularium/tabulariumlaw06.TapeClones", spec := "tapeClones", apart := false, narrowed := true }
def TapeClonesUptoSaid : Prop := tapeClonesUptoRow.holds Try.pinned (OpenSpec.upto tapeClonesSpec)

/-- 'tabulariumlaw06.TapeKeys', WHERE WHAT IT READS IS OF BULK AT MOST 1048576: true; the input reads as it did. -/
def tapeKeysUptoRow : OpenClaim := { program := "ytfkhabiahfchaaa", sum := "0f9c2d925356f0867e2b18254d663f67654a47c6f81045240fa76f8d287629fb", func := "tabularium/tabulariumlaw06.TapeKeys", spec := "tapeKeys", apart := false, narrowed := true }
def TapeKeysUptoSaid : Prop := tapeKeysUptoRow.holds Try.pinned (OpenSpec.upto tapeKeysSpec)

end Rows
end Go.Proofs.Ytfkhabiahfchaaa
