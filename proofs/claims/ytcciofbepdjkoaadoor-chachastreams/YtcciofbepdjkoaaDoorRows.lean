/-
  NARROWER THAN 'FOR EVERY INPUT', by the rows' own cells (each row's printed sentence says how): ChachaBlocks: laid · ChachaStreams: laid · ChachaBack: laid · ChachaTells: laid · ChachaParts: laid.
  DERIVED. THE GIVEN ROWS OF THIS SEAT. 5 by the template 'for every input the law returns true; each argument reads behind the call as it read before'; 0 by the template 'total and deterministic' (their statements: YtcciofbepdjkoaaDoorTotals.lean).
  GIVEN WITH THE SEED: the statements are not yours to turn. If you find one false, say at which input.
  Laid BY PROGRAM, IN A SANDBOX (cutbox-rows.mjs): the forced cells as the released guide's own fill.sh prints them over the translation 4f7936d692e54384… (all of the seat's roots in one cut). By AI agents, Wed Nov 11 2026. No macro, syntax, notation, axiom, sorry.
-/
import Derived.Test.YtcciofbepdjkoaaDoorChecked
import GoSem.Claim
import GoSem.ClaimJoined
import GoSem.ClaimMapViews
import Derived.JoinedTies
import Derived.KernelRfl
namespace Go.Proofs.YtcciofbepdjkoaaDoor
/- THE CELL 'sum', in the pinned program and in every row, IS THE sha256 OF THE DUMP (.gsa) THAT YtcciofbepdjkoaaDoorProg.lean LOADS. Nothing in Lean hashes anything: it is a label: what it is worth is what the hold of that sum in a sandbox is worth. -/
noncomputable def Tryd.pinned : Pinned := { name := "ytcciofbepdjkoaadoor", sum := "4f7936d692e543840e22ebe4850a5422fab16322fe9655fe8d2ef1b1081cf6cd", checked := Tryd.checked }
namespace Rows
def none {H : Type} : Left H := { results := [], args := [] }

/- WHAT THE LISTED PACKAGE-LEVEL VARIABLES READ AS WHEN THE CALL BEGINS. Each datum BY PROGRAM (the guide's laid-datum.mjs) off the statement by which the dump's own 'gosem.cut.vars' lays the variable. In a bare row this is a premise. The card (YtcciofbepdjkoaaDoorCards.lean) ties it to the program's text. -/
def laid_tabularium_chacha_fixedWords {H : Type} : DataW H := .agg [.lit (.int .u32 1634760805), .lit (.int .u32 857760878), .lit (.int .u32 2036477234), .lit (.int .u32 1797285236)]
def laid_tabularium_chacha_quarters {H : Type} : DataW H := .agg [.agg [.lit (.int .u8 0), .lit (.int .u8 4), .lit (.int .u8 8), .lit (.int .u8 12)], .agg [.lit (.int .u8 1), .lit (.int .u8 5), .lit (.int .u8 9), .lit (.int .u8 13)], .agg [.lit (.int .u8 2), .lit (.int .u8 6), .lit (.int .u8 10), .lit (.int .u8 14)], .agg [.lit (.int .u8 3), .lit (.int .u8 7), .lit (.int .u8 11), .lit (.int .u8 15)], .agg [.lit (.int .u8 0), .lit (.int .u8 5), .lit (.int .u8 10), .lit (.int .u8 15)], .agg [.lit (.int .u8 1), .lit (.int .u8 6), .lit (.int .u8 11), .lit (.int .u8 12)], .agg [.lit (.int .u8 2), .lit (.int .u8 7), .lit (.int .u8 8), .lit (.int .u8 13)], .agg [.lit (.int .u8 3), .lit (.int .u8 4), .lit (.int .u8 9), .lit (.int .u8 14)]]

/-- 'tabulariumlaw04.ChachaBlocks': WHATEVER THE INPUT: true; the input reads as it did. -/
def chachaBlocksSpec : ChangeSpec := { name := "chachaBlocks", fn := fun _ => fun
  | [d1, d2, d3, d4] => { results := [.lit (.bool true)], args := [d1, d2, d3, d4] }
  | _ => none }
def chachaBlocksRow : OpenClaim := { program := "ytcciofbepdjkoaadoor", sum := "4f7936d692e543840e22ebe4850a5422fab16322fe9655fe8d2ef1b1081cf6cd", func := "tabularium/tabulariumlaw04.ChachaBlocks", spec := "chachaBlocks", unfollowed := true, recurses := true, named := ["tabularium/chacha.fixedWords", "tabularium/chacha.quarters"], apart := false, laid := [("tabularium/chacha.fixedWords", laid_tabularium_chacha_fixedWords), ("tabularium/chacha.quarters", laid_tabularium_chacha_quarters)] }
def ChachaBlocksSaid : Prop := chachaBlocksRow.holds Tryd.pinned (OpenSpec.ofChange chachaBlocksSpec)

/-- ITS FALSE NEIGHBOUR: 'it returns false'. Refute it at one input. -/
def chachaBlocksWrong : ChangeSpec := { name := "chachaBlocks", fn := fun _ => fun
  | [d1, d2, d3, d4] => { results := [.lit (.bool false)], args := [d1, d2, d3, d4] }
  | _ => none }
def ChachaBlocksWrongFalsely : Prop := chachaBlocksRow.holds Tryd.pinned (OpenSpec.ofChange chachaBlocksWrong)

/-- 'tabulariumlaw04.ChachaStreams': WHATEVER THE INPUT: true; the input reads as it did. -/
def chachaStreamsSpec : ChangeSpec := { name := "chachaStreams", fn := fun _ => fun
  | [d1, d2, d3, d4] => { results := [.lit (.bool true)], args := [d1, d2, d3, d4] }
  | _ => none }
def chachaStreamsRow : OpenClaim := { program := "ytcciofbepdjkoaadoor", sum := "4f7936d692e543840e22ebe4850a5422fab16322fe9655fe8d2ef1b1081cf6cd", func := "tabularium/tabulariumlaw04.ChachaStreams", spec := "chachaStreams", unfollowed := true, recurses := true, named := ["tabularium/chacha.fixedWords", "tabularium/chacha.quarters"], apart := false, laid := [("tabularium/chacha.fixedWords", laid_tabularium_chacha_fixedWords), ("tabularium/chacha.quarters", laid_tabularium_chacha_quarters)] }
def ChachaStreamsSaid : Prop := chachaStreamsRow.holds Tryd.pinned (OpenSpec.ofChange chachaStreamsSpec)

/-- ITS FALSE NEIGHBOUR: 'it returns false'. Refute it at one input. -/
def chachaStreamsWrong : ChangeSpec := { name := "chachaStreams", fn := fun _ => fun
  | [d1, d2, d3, d4] => { results := [.lit (.bool false)], args := [d1, d2, d3, d4] }
  | _ => none }
def ChachaStreamsWrongFalsely : Prop := chachaStreamsRow.holds Tryd.pinned (OpenSpec.ofChange chachaStreamsWrong)

/-- 'tabulariumlaw04.ChachaBack': WHATEVER THE INPUT: true; the input reads as it did. -/
def chachaBackSpec : ChangeSpec := { name := "chachaBack", fn := fun _ => fun
  | [d1, d2, d3, d4] => { results := [.lit (.bool true)], args := [d1, d2, d3, d4] }
  | _ => none }
def chachaBackRow : OpenClaim := { program := "ytcciofbepdjkoaadoor", sum := "4f7936d692e543840e22ebe4850a5422fab16322fe9655fe8d2ef1b1081cf6cd", func := "tabularium/tabulariumlaw04.ChachaBack", spec := "chachaBack", unfollowed := true, recurses := true, named := ["tabularium/chacha.fixedWords", "tabularium/chacha.quarters"], apart := false, laid := [("tabularium/chacha.fixedWords", laid_tabularium_chacha_fixedWords), ("tabularium/chacha.quarters", laid_tabularium_chacha_quarters)] }
def ChachaBackSaid : Prop := chachaBackRow.holds Tryd.pinned (OpenSpec.ofChange chachaBackSpec)

/-- ITS FALSE NEIGHBOUR: 'it returns false'. Refute it at one input. -/
def chachaBackWrong : ChangeSpec := { name := "chachaBack", fn := fun _ => fun
  | [d1, d2, d3, d4] => { results := [.lit (.bool false)], args := [d1, d2, d3, d4] }
  | _ => none }
def ChachaBackWrongFalsely : Prop := chachaBackRow.holds Tryd.pinned (OpenSpec.ofChange chachaBackWrong)

/-- 'tabulariumlaw04.ChachaTells': WHATEVER THE INPUT: true; the input reads as it did. -/
def chachaTellsSpec : ChangeSpec := { name := "chachaTells", fn := fun _ => fun
  | [d1, d2, d3, d4] => { results := [.lit (.bool true)], args := [d1, d2, d3, d4] }
  | _ => none }
def chachaTellsRow : OpenClaim := { program := "ytcciofbepdjkoaadoor", sum := "4f7936d692e543840e22ebe4850a5422fab16322fe9655fe8d2ef1b1081cf6cd", func := "tabularium/tabulariumlaw04.ChachaTells", spec := "chachaTells", unfollowed := true, recurses := true, named := ["tabularium/chacha.fixedWords", "tabularium/chacha.quarters"], apart := false, laid := [("tabularium/chacha.fixedWords", laid_tabularium_chacha_fixedWords), ("tabularium/chacha.quarters", laid_tabularium_chacha_quarters)] }
def ChachaTellsSaid : Prop := chachaTellsRow.holds Tryd.pinned (OpenSpec.ofChange chachaTellsSpec)

/-- ITS FALSE NEIGHBOUR: 'it returns false'. Refute it at one input. -/
def chachaTellsWrong : ChangeSpec := { name := "chachaTells", fn := fun _ => fun
  | [d1, d2, d3, d4] => { results := [.lit (.bool false)], args := [d1, d2, d3, d4] }
  | _ => none }
def ChachaTellsWrongFalsely : Prop := chachaTellsRow.holds Tryd.pinned (OpenSpec.ofChange chachaTellsWrong)

/-- 'tabulariumlaw04.ChachaParts': WHATEVER THE INPUT: true; the input reads as it did. -/
def chachaPartsSpec : ChangeSpec := { name := "chachaParts", fn := fun _ => fun
  | [d1, d2, d3, d4, d5] => { results := [.lit (.bool true)], args := [d1, d2, d3, d4, d5] }
  | _ => none }
def chachaPartsRow : OpenClaim := { program := "ytcciofbepdjkoaadoor", sum := "4f7936d692e543840e22ebe4850a5422fab16322fe9655fe8d2ef1b1081cf6cd", func := "tabularium/tabulariumlaw04.ChachaParts", spec := "chachaParts", unfollowed := true, recurses := true, named := ["tabularium/chacha.fixedWords", "tabularium/chacha.quarters"], apart := false, laid := [("tabularium/chacha.fixedWords", laid_tabularium_chacha_fixedWords), ("tabularium/chacha.quarters", laid_tabularium_chacha_quarters)] }
def ChachaPartsSaid : Prop := chachaPartsRow.holds Tryd.pinned (OpenSpec.ofChange chachaPartsSpec)

/-- ITS FALSE NEIGHBOUR: 'it returns false'. Refute it at one input. -/
def chachaPartsWrong : ChangeSpec := { name := "chachaParts", fn := fun _ => fun
  | [d1, d2, d3, d4, d5] => { results := [.lit (.bool false)], args := [d1, d2, d3, d4, d5] }
  | _ => none }
def ChachaPartsWrongFalsely : Prop := chachaPartsRow.holds Tryd.pinned (OpenSpec.ofChange chachaPartsWrong)

/- THE SECOND FORM. 'bulk': how many values and letters a reading holds, each counted each time it is reached (what is shared counts as often as it is met; a slice's spare places count too). A statement '..UptoSaid' is the law's where the arguments, and the package variables that the reading takes, are together of bulk at most 1048576: NARROWER than '..Said'. Prove '..Said' where nothing that the law and all that it calls make is longer than what came in: it says more and counts as full. Else prove '..UptoSaid'. A law counts once. -/
mutual
def uptoBulk {H : Type} : DataW H → Nat
  | .lit (.string bytes) => bytes.length + 1
  | .lit _ => 1
  | .nil => 1
  | .ptr d => uptoBulk d + 1
  | .slice elems spare => uptoBulkAll elems + uptoBulkAll spare + 1
  | .agg parts => uptoBulkAll parts + 1
  | .iface _ d => uptoBulk d + 1
  | .map entries => uptoBulkEntries entries + 1
  | .held _ => 1
def uptoBulkAll {H : Type} : List (DataW H) → Nat
  | [] => 0
  | d :: r => uptoBulk d + uptoBulkAll r
def uptoBulkEntries {H : Type} : List (Lit × DataW H) → Nat
  | [] => 0
  | x :: r => uptoBulkEntry x + uptoBulkEntries r
def uptoBulkEntry {H : Type} : Lit × DataW H → Nat
  | (.string bytes, d) => bytes.length + uptoBulk d + 1
  | (_, d) => uptoBulk d + 1
 end
def uptoSmall : (H : Type) → List (DataW H) → Bool := fun _ ds => decide (uptoBulkAll ds ≤ 1048576)
def OpenSpec.upto (s : _root_.Go.ChangeSpec) : _root_.Go.OpenSpec := { _root_.Go.OpenSpec.ofChange s with cond := some uptoSmall }

/-- 'tabulariumlaw04.ChachaBlocks', WHERE WHAT IT READS IS OF BULK AT MOST 1048576: true; the input reads as it did. -/
def chachaBlocksUptoRow : OpenClaim := { program := "ytcciofbepdjkoaadoor", sum := "4f7936d692e543840e22ebe4850a5422fab16322fe9655fe8d2ef1b1081cf6cd", func := "tabularium/tabulariumlaw04.ChachaBlocks", spec := "chachaBlocks", unfollowed := true, recurses := true, named := ["tabularium/chacha.fixedWords", "tabularium/chacha.quarters"], apart := false, laid := [("tabularium/chacha.fixedWords", laid_tabularium_chacha_fixedWords), ("tabularium/chacha.quarters", laid_tabularium_chacha_quarters)], narrowed := true }
def ChachaBlocksUptoSaid : Prop := chachaBlocksUptoRow.holds Tryd.pinned (OpenSpec.upto chachaBlocksSpec)

/-- 'tabulariumlaw04.ChachaStreams', WHERE WHAT IT READS IS OF BULK AT MOST 1048576: true; the input reads as it did. -/
def chachaStreamsUptoRow : OpenClaim := { program := "ytcciofbepdjkoaadoor", sum := "4f7936d692e543840e22ebe4850a5422fab16322fe9655fe8d2ef1b1081cf6cd", func := "tabularium/tabulariumlaw04.ChachaStreams", spec := "chachaStreams", unfollowed := true, recurses := true, named := ["tabularium/chacha.fixedWords", "tabularium/chacha.quarters"], apart := false, laid := [("tabularium/chacha.fixedWords", laid_tabularium_chacha_fixedWords), ("tabularium/chacha.quarters", laid_tabularium_chacha_quarters)], narrowed := true }
def ChachaStreamsUptoSaid : Prop := chachaStreamsUptoRow.holds Tryd.pinned (OpenSpec.upto chachaStreamsSpec)

/-- 'tabulariumlaw04.ChachaBack', WHERE WHAT IT READS IS OF BULK AT MOST 1048576: true; the input reads as it did. -/
def chachaBackUptoRow : OpenClaim := { program := "ytcciofbepdjkoaadoor", sum := "4f7936d692e543840e22ebe4850a5422fab16322fe9655fe8d2ef1b1081cf6cd", func := "tabularium/tabulariumlaw04.ChachaBack", spec := "chachaBack", unfollowed := true, recurses := true, named := ["tabularium/chacha.fixedWords", "tabularium/chacha.quarters"], apart := false, laid := [("tabularium/chacha.fixedWords", laid_tabularium_chacha_fixedWords), ("tabularium/chacha.quarters", laid_tabularium_chacha_quarters)], narrowed := true }
def ChachaBackUptoSaid : Prop := chachaBackUptoRow.holds Tryd.pinned (OpenSpec.upto chachaBackSpec)

/-- 'tabulariumlaw04.ChachaTells', WHERE WHAT IT READS IS OF BULK AT MOST 1048576: true; the input reads as it did. -/
def chachaTellsUptoRow : OpenClaim := { program := "ytcciofbepdjkoaadoor", sum := "4f7936d692e543840e22ebe4850a5422fab16322fe9655fe8d2ef1b1081cf6cd", func := "tabularium/tabulariumlaw04.ChachaTells", spec := "chachaTells", unfollowed := true, recurses := true, named := ["tabularium/chacha.fixedWords", "tabularium/chacha.quarters"], apart := false, laid := [("tabularium/chacha.fixedWords", laid_tabularium_chacha_fixedWords), ("tabularium/chacha.quarters", laid_tabularium_chacha_quarters)], narrowed := true }
def ChachaTellsUptoSaid : Prop := chachaTellsUptoRow.holds Tryd.pinned (OpenSpec.upto chachaTellsSpec)

/-- 'tabulariumlaw04.ChachaParts', WHERE WHAT IT READS IS OF BULK AT MOST 1048576: true; the input reads as it did. -/
def chachaPartsUptoRow : OpenClaim := { program := "ytcciofbepdjkoaadoor", sum := "4f7936d692e543840e22ebe4850a5422fab16322fe9655fe8d2ef1b1081cf6cd", func := "tabularium/tabulariumlaw04.ChachaParts", spec := "chachaParts", unfollowed := true, recurses := true, named := ["tabularium/chacha.fixedWords", "tabularium/chacha.quarters"], apart := false, laid := [("tabularium/chacha.fixedWords", laid_tabularium_chacha_fixedWords), ("tabularium/chacha.quarters", laid_tabularium_chacha_quarters)], narrowed := true }
def ChachaPartsUptoSaid : Prop := chachaPartsUptoRow.holds Tryd.pinned (OpenSpec.upto chachaPartsSpec)

end Rows
end Go.Proofs.YtcciofbepdjkoaaDoor
