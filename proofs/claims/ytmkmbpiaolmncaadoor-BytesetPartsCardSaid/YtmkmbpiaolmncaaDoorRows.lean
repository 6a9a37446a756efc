/-
  NARROWER THAN 'FOR EVERY INPUT', by the rows' own cells (each row's printed sentence says how): BytesetOf: laid · BytesetHas: laid · BytesetJoins: laid · BytesetCounts: laid · BytesetRanges: laid · BytesetParts: laid · BytesetAlgebra: laid · BytesetUnites: laid · BytesetSplits: laid.
  DERIVED. THE GIVEN ROWS OF THIS SEAT. 9 by the template 'for every input the law returns true; each argument reads behind the call as it read before'; 0 by the template 'total and deterministic' (their statements: YtmkmbpiaolmncaaDoorTotals.lean).
  GIVEN WITH THE SEED: the statements are not yours to turn. If you find one false, say at which input.
  Laid BY PROGRAM, IN A SANDBOX (cutbox-rows.mjs): the forced cells as the released guide's own fill.sh prints them over the translation ca9c9c65dba2d21a… (all of the seat's roots in one cut). By AI agents, Wed Nov 11 2026. No macro, syntax, notation, axiom, sorry.
-/
import Derived.Test.YtmkmbpiaolmncaaDoorChecked
import GoSem.Claim
import GoSem.ClaimJoined
import GoSem.ClaimMapViews
import Derived.JoinedTies
import Derived.KernelRfl
namespace Go.Proofs.YtmkmbpiaolmncaaDoor
/- THE CELL 'sum', in the pinned program and in every row, IS THE sha256 OF THE DUMP (.gsa) THAT YtmkmbpiaolmncaaDoorProg.lean LOADS. Nothing in Lean hashes anything: it is a label: what it is worth is what the hold of that sum in a sandbox is worth. -/
noncomputable def Tryd.pinned : Pinned := { name := "ytmkmbpiaolmncaadoor", sum := "ca9c9c65dba2d21a78dcb62a9856dafb832fd4dd53b1a11b21eb12c91160846c", checked := Tryd.checked }
namespace Rows
def none {H : Type} : Left H := { results := [], args := [] }

/- WHAT THE LISTED PACKAGE-LEVEL VARIABLES READ AS WHEN THE CALL BEGINS. Each datum BY PROGRAM (the guide's laid-datum.mjs) off the statement by which the dump's own 'gosem.cut.vars' lays the variable. In a bare row this is a premise. The card (YtmkmbpiaolmncaaDoorCards.lean) ties it to the program's text. -/
def laid_math_bits_deBruijn64tab {H : Type} : DataW H := .agg [.lit (.int .u8 0), .lit (.int .u8 1), .lit (.int .u8 56), .lit (.int .u8 2), .lit (.int .u8 57), .lit (.int .u8 49), .lit (.int .u8 28), .lit (.int .u8 3), .lit (.int .u8 61), .lit (.int .u8 58), .lit (.int .u8 42), .lit (.int .u8 50), .lit (.int .u8 38), .lit (.int .u8 29), .lit (.int .u8 17), .lit (.int .u8 4), .lit (.int .u8 62), .lit (.int .u8 47), .lit (.int .u8 59), .lit (.int .u8 36), .lit (.int .u8 45), .lit (.int .u8 43), .lit (.int .u8 51), .lit (.int .u8 22), .lit (.int .u8 53), .lit (.int .u8 39), .lit (.int .u8 33), .lit (.int .u8 30), .lit (.int .u8 24), .lit (.int .u8 18), .lit (.int .u8 12), .lit (.int .u8 5), .lit (.int .u8 63), .lit (.int .u8 55), .lit (.int .u8 48), .lit (.int .u8 27), .lit (.int .u8 60), .lit (.int .u8 41), .lit (.int .u8 37), .lit (.int .u8 16), .lit (.int .u8 46), .lit (.int .u8 35), .lit (.int .u8 44), .lit (.int .u8 21), .lit (.int .u8 52), .lit (.int .u8 32), .lit (.int .u8 23), .lit (.int .u8 11), .lit (.int .u8 54), .lit (.int .u8 26), .lit (.int .u8 40), .lit (.int .u8 15), .lit (.int .u8 34), .lit (.int .u8 20), .lit (.int .u8 31), .lit (.int .u8 10), .lit (.int .u8 25), .lit (.int .u8 14), .lit (.int .u8 19), .lit (.int .u8 9), .lit (.int .u8 13), .lit (.int .u8 8), .lit (.int .u8 7), .lit (.int .u8 6)]

/-- 'configlanglaw03.BytesetOf': WHATEVER THE INPUT: true; the input reads as it did. -/
def bytesetOfSpec : ChangeSpec := { name := "bytesetOf", fn := fun _ => fun
  | [d1, d2] => { results := [.lit (.bool true)], args := [d1, d2] }
  | _ => none }
def bytesetOfRow : OpenClaim := { program := "ytmkmbpiaolmncaadoor", sum := "ca9c9c65dba2d21a78dcb62a9856dafb832fd4dd53b1a11b21eb12c91160846c", func := "configlang/configlanglaw03.BytesetOf", spec := "bytesetOf", unfollowed := true, recurses := true, named := ["math/bits.deBruijn64tab"], apart := false, laid := [("math/bits.deBruijn64tab", laid_math_bits_deBruijn64tab)] }
def BytesetOfSaid : Prop := bytesetOfRow.holds Tryd.pinned (OpenSpec.ofChange bytesetOfSpec)

/-- ITS FALSE NEIGHBOUR: 'it returns false'. Refute it at one input. -/
def bytesetOfWrong : ChangeSpec := { name := "bytesetOf", fn := fun _ => fun
  | [d1, d2] => { results := [.lit (.bool false)], args := [d1, d2] }
  | _ => none }
def BytesetOfWrongFalsely : Prop := bytesetOfRow.holds Tryd.pinned (OpenSpec.ofChange bytesetOfWrong)

/-- 'configlanglaw03.BytesetHas': WHATEVER THE INPUT: true; the input reads as it did. -/
def bytesetHasSpec : ChangeSpec := { name := "bytesetHas", fn := fun _ => fun
  | [d1, d2] => { results := [.lit (.bool true)], args := [d1, d2] }
  | _ => none }
def bytesetHasRow : OpenClaim := { program := "ytmkmbpiaolmncaadoor", sum := "ca9c9c65dba2d21a78dcb62a9856dafb832fd4dd53b1a11b21eb12c91160846c", func := "configlang/configlanglaw03.BytesetHas", spec := "bytesetHas", unfollowed := true, recurses := true, named := ["math/bits.deBruijn64tab"], apart := false, laid := [("math/bits.deBruijn64tab", laid_math_bits_deBruijn64tab)] }
def BytesetHasSaid : Prop := bytesetHasRow.holds Tryd.pinned (OpenSpec.ofChange bytesetHasSpec)

/-- ITS FALSE NEIGHBOUR: 'it returns false'. Refute it at one input. -/
def bytesetHasWrong : ChangeSpec := { name := "bytesetHas", fn := fun _ => fun
  | [d1, d2] => { results := [.lit (.bool false)], args := [d1, d2] }
  | _ => none }
def BytesetHasWrongFalsely : Prop := bytesetHasRow.holds Tryd.pinned (OpenSpec.ofChange bytesetHasWrong)

/-- 'configlanglaw03.BytesetJoins': WHATEVER THE INPUT: true; the input reads as it did. -/
def bytesetJoinsSpec : ChangeSpec := { name := "bytesetJoins", fn := fun _ => fun
  | [d1, d2] => { results := [.lit (.bool true)], args := [d1, d2] }
  | _ => none }
def bytesetJoinsRow : OpenClaim := { program := "ytmkmbpiaolmncaadoor", sum := "ca9c9c65dba2d21a78dcb62a9856dafb832fd4dd53b1a11b21eb12c91160846c", func := "configlang/configlanglaw03.BytesetJoins", spec := "bytesetJoins", unfollowed := true, recurses := true, named := ["math/bits.deBruijn64tab"], apart := false, laid := [("math/bits.deBruijn64tab", laid_math_bits_deBruijn64tab)] }
def BytesetJoinsSaid : Prop := bytesetJoinsRow.holds Tryd.pinned (OpenSpec.ofChange bytesetJoinsSpec)

/-- ITS FALSE NEIGHBOUR: 'it returns false'. Refute it at one input. -/
def bytesetJoinsWrong : ChangeSpec := { name := "bytesetJoins", fn := fun _ => fun
  | [d1, d2] => { results := [.lit (.bool false)], args := [d1, d2] }
  | _ => none }
def BytesetJoinsWrongFalsely : Prop := bytesetJoinsRow.holds Tryd.pinned (OpenSpec.ofChange bytesetJoinsWrong)

/-- 'configlanglaw03.BytesetCounts': WHATEVER THE INPUT: true; the input reads as it did. -/
def bytesetCountsSpec : ChangeSpec := { name := "bytesetCounts", fn := fun _ => fun
  | [d] => { results := [.lit (.bool true)], args := [d] }
  | _ => none }
def bytesetCountsRow : OpenClaim := { program := "ytmkmbpiaolmncaadoor", sum := "ca9c9c65dba2d21a78dcb62a9856dafb832fd4dd53b1a11b21eb12c91160846c", func := "configlang/configlanglaw03.BytesetCounts", spec := "bytesetCounts", unfollowed := true, recurses := true, named := ["math/bits.deBruijn64tab"], apart := false, laid := [("math/bits.deBruijn64tab", laid_math_bits_deBruijn64tab)] }
def BytesetCountsSaid : Prop := bytesetCountsRow.holds Tryd.pinned (OpenSpec.ofChange bytesetCountsSpec)

/-- ITS FALSE NEIGHBOUR: 'it returns false'. Refute it at one input. -/
def bytesetCountsWrong : ChangeSpec := { name := "bytesetCounts", fn := fun _ => fun
  | [d] => { results := [.lit (.bool false)], args := [d] }
  | _ => none }
def BytesetCountsWrongFalsely : Prop := bytesetCountsRow.holds Tryd.pinned (OpenSpec.ofChange bytesetCountsWrong)

/-- 'configlanglaw03.BytesetRanges': WHATEVER THE INPUT: true; the input reads as it did. -/
def bytesetRangesSpec : ChangeSpec := { name := "bytesetRanges", fn := fun _ => fun
  | [d] => { results := [.lit (.bool true)], args := [d] }
  | _ => none }
def bytesetRangesRow : OpenClaim := { program := "ytmkmbpiaolmncaadoor", sum := "ca9c9c65dba2d21a78dcb62a9856dafb832fd4dd53b1a11b21eb12c91160846c", func := "configlang/configlanglaw03.BytesetRanges", spec := "bytesetRanges", unfollowed := true, recurses := true, named := ["math/bits.deBruijn64tab"], apart := false, laid := [("math/bits.deBruijn64tab", laid_math_bits_deBruijn64tab)] }
def BytesetRangesSaid : Prop := bytesetRangesRow.holds Tryd.pinned (OpenSpec.ofChange bytesetRangesSpec)

/-- ITS FALSE NEIGHBOUR: 'it returns false'. Refute it at one input. -/
def bytesetRangesWrong : ChangeSpec := { name := "bytesetRanges", fn := fun _ => fun
  | [d] => { results := [.lit (.bool false)], args := [d] }
  | _ => none }
def BytesetRangesWrongFalsely : Prop := bytesetRangesRow.holds Tryd.pinned (OpenSpec.ofChange bytesetRangesWrong)

/-- 'configlanglaw03.BytesetParts': WHATEVER THE INPUT: true; the input reads as it did. -/
def bytesetPartsSpec : ChangeSpec := { name := "bytesetParts", fn := fun _ => fun
  | [d] => { results := [.lit (.bool true)], args := [d] }
  | _ => none }
def bytesetPartsRow : OpenClaim := { program := "ytmkmbpiaolmncaadoor", sum := "ca9c9c65dba2d21a78dcb62a9856dafb832fd4dd53b1a11b21eb12c91160846c", func := "configlang/configlanglaw03.BytesetParts", spec := "bytesetParts", unfollowed := true, recurses := true, named := ["math/bits.deBruijn64tab"], apart := false, laid := [("math/bits.deBruijn64tab", laid_math_bits_deBruijn64tab)] }
def BytesetPartsSaid : Prop := bytesetPartsRow.holds Tryd.pinned (OpenSpec.ofChange bytesetPartsSpec)

/-- ITS FALSE NEIGHBOUR: 'it returns false'. Refute it at one input. -/
def bytesetPartsWrong : ChangeSpec := { name := "bytesetParts", fn := fun _ => fun
  | [d] => { results := [.lit (.bool false)], args := [d] }
  | _ => none }
def BytesetPartsWrongFalsely : Prop := bytesetPartsRow.holds Tryd.pinned (OpenSpec.ofChange bytesetPartsWrong)

/-- 'configlanglaw03.BytesetAlgebra': WHATEVER THE INPUT: true; the input reads as it did. -/
def bytesetAlgebraSpec : ChangeSpec := { name := "bytesetAlgebra", fn := fun _ => fun
  | [d1, d2, d3] => { results := [.lit (.bool true)], args := [d1, d2, d3] }
  | _ => none }
def bytesetAlgebraRow : OpenClaim := { program := "ytmkmbpiaolmncaadoor", sum := "ca9c9c65dba2d21a78dcb62a9856dafb832fd4dd53b1a11b21eb12c91160846c", func := "configlang/configlanglaw03.BytesetAlgebra", spec := "bytesetAlgebra", unfollowed := true, recurses := true, named := ["math/bits.deBruijn64tab"], apart := false, laid := [("math/bits.deBruijn64tab", laid_math_bits_deBruijn64tab)] }
def BytesetAlgebraSaid : Prop := bytesetAlgebraRow.holds Tryd.pinned (OpenSpec.ofChange bytesetAlgebraSpec)

/-- ITS FALSE NEIGHBOUR: 'it returns false'. Refute it at one input. -/
def bytesetAlgebraWrong : ChangeSpec := { name := "bytesetAlgebra", fn := fun _ => fun
  | [d1, d2, d3] => { results := [.lit (.bool false)], args := [d1, d2, d3] }
  | _ => none }
def BytesetAlgebraWrongFalsely : Prop := bytesetAlgebraRow.holds Tryd.pinned (OpenSpec.ofChange bytesetAlgebraWrong)

/-- 'configlanglaw03.BytesetUnites': WHATEVER THE INPUT: true; the input reads as it did. -/
def bytesetUnitesSpec : ChangeSpec := { name := "bytesetUnites", fn := fun _ => fun
  | [d] => { results := [.lit (.bool true)], args := [d] }
  | _ => none }
def bytesetUnitesRow : OpenClaim := { program := "ytmkmbpiaolmncaadoor", sum := "ca9c9c65dba2d21a78dcb62a9856dafb832fd4dd53b1a11b21eb12c91160846c", func := "configlang/configlanglaw03.BytesetUnites", spec := "bytesetUnites", unfollowed := true, recurses := true, named := ["math/bits.deBruijn64tab"], apart := false, laid := [("math/bits.deBruijn64tab", laid_math_bits_deBruijn64tab)] }
def BytesetUnitesSaid : Prop := bytesetUnitesRow.holds Tryd.pinned (OpenSpec.ofChange bytesetUnitesSpec)

/-- ITS FALSE NEIGHBOUR: 'it returns false'. Refute it at one input. -/
def bytesetUnitesWrong : ChangeSpec := { name := "bytesetUnites", fn := fun _ => fun
  | [d] => { results := [.lit (.bool false)], args := [d] }
  | _ => none }
def BytesetUnitesWrongFalsely : Prop := bytesetUnitesRow.holds Tryd.pinned (OpenSpec.ofChange bytesetUnitesWrong)

/-- 'configlanglaw03.BytesetSplits': WHATEVER THE INPUT: true; the input reads as it did. -/
def bytesetSplitsSpec : ChangeSpec := { name := "bytesetSplits", fn := fun _ => fun
  | [d1, d2, d3] => { results := [.lit (.bool true)], args := [d1, d2, d3] }
  | _ => none }
def bytesetSplitsRow : OpenClaim := { program := "ytmkmbpiaolmncaadoor", sum := "ca9c9c65dba2d21a78dcb62a9856dafb832fd4dd53b1a11b21eb12c91160846c", func := "configlang/configlanglaw03.BytesetSplits", spec := "bytesetSplits", unfollowed := true, recurses := true, named := ["math/bits.deBruijn64tab"], apart := false, laid := [("math/bits.deBruijn64tab", laid_math_bits_deBruijn64tab)] }
def BytesetSplitsSaid : Prop := bytesetSplitsRow.holds Tryd.pinned (OpenSpec.ofChange bytesetSplitsSpec)

/-- ITS FALSE NEIGHBOUR: 'it returns false'. Refute it at one input. -/
def bytesetSplitsWrong : ChangeSpec := { name := "bytesetSplits", fn := fun _ => fun
  | [d1, d2, d3] => { results := [.lit (.bool false)], args := [d1, d2, d3] }
  | _ => none }
def BytesetSplitsWrongFalsely : Prop := bytesetSplitsRow.holds Tryd.pinned (OpenSpec.ofChange bytesetSplitsWrong)

/- THE SECOND FORM. 'bulk': how many values and letters a reading holds, each counted each time it is reached (what is shared counts as often as it is met; a slice's spare places count too). A statement '..UptoSaid' is the law's where the arguments, and the package variables that the reading takes, are together of bulk at most 1048576: NARROWER than '..Said'. Prove '..Said' where nothing that the law and all that it calls make is longer than what came in: it says more and counts as full. Else prove '..UptoSaid'. A law counts once. -/
mutual
def uptoBulk {H : Type} : DataW H → Nat
  | .lit (.string bytes) => bytes.length + 1
  | .lit _ => 1
  | .nil => 1
  | .ptr d => uptoBulk d + 1
  | .slice elems spare => uptoBulkAll elems + uptoBulkAll spare + 1
  | .agg parts => uptoBulkAll parts + 1
  | .iface _ d => uptoBulk d + 1
  | .map entries => uptoBulkEntries entries + 1
  | .held _ => 1
def uptoBulkAll {H : Type} : List (DataW H) → Nat
  | [] => 0
  | d :: r => uptoBulk d + uptoBulkAll r
def uptoBulkEntries {H : Type} : List (Lit × DataW H) → Nat
  | [] => 0
  | x :: r => uptoBulkEntry x + uptoBulkEntries r
def uptoBulkEntry {H : Type} : Lit × DataW H → Nat
  | (.string bytes, d) => bytes.length + uptoBulk d + 1
  | (_, d) => uptoBulk d + 1
 end
def uptoSmall : (H : Type) → List (DataW H) → Bool := fun _ ds => decide (uptoBulkAll ds ≤ 1048576)
def OpenSpec.upto (s : _root_.Go.ChangeSpec) : _root_.Go.OpenSpec := { _root_.Go.OpenSpec.ofChange s with cond := some uptoSmall }

/-- 'configlanglaw03.BytesetOf', WHERE WHAT IT READS IS OF BULK AT MOST 1048576: true; the input reads as it did. -/
def bytesetOfUptoRow : OpenClaim := { program := "ytmkmbpiaolmncaadoor", sum := "ca9c9c65dba2d21a78dcb62a9856dafb832fd4dd53b1a11b21eb12c91160846c", func := "configlang/configlanglaw03.BytesetOf", spec := "bytesetOf", unfollowed := true, recurses := true, named := ["math/bits.deBruijn64tab"], apart := false, laid := [("math/bits.deBruijn64tab", laid_math_bits_deBruijn64tab)], narrowed := true }
def BytesetOfUptoSaid : Prop := bytesetOfUptoRow.holds Tryd.pinned (OpenSpec.upto bytesetOfSpec)

/-- 'configlanglaw03.BytesetHas', WHERE WHAT IT READS IS OF BULK AT MOST 1048576: true; the input reads as it did. -/
def bytesetHasUptoRow : OpenClaim := { program := "ytmkmbpiaolmncaadoor", sum := "ca9c9c65dba2d21a78dcb62a9856dafb832fd4dd53b1a11b21eb12c91160846c", func := "configlang/configlanglaw03.BytesetHas", spec := "bytesetHas", unfollowed := true, recurses := true, named := ["math/bits.deBruijn64tab"], apart := false, laid := [("math/bits.deBruijn64tab", laid_math_bits_deBruijn64tab)], narrowed := true }
def BytesetHasUptoSaid : Prop := bytesetHasUptoRow.holds Tryd.pinned (OpenSpec.upto bytesetHasSpec)

/-- 'configlanglaw03.BytesetJoins', WHERE WHAT IT READS IS OF BULK AT MOST 1048576: true; the input reads as it did. -/
def bytesetJoinsUptoRow : OpenClaim := { program := "ytmkmbpiaolmncaadoor", sum := "ca9c9c65dba2d21a78dcb62a9856dafb832fd4dd53b1a11b21eb12c91160846c", func := "configlang/configlanglaw03.BytesetJoins", spec := "bytesetJoins", unfollowed := true, recurses := true, named := ["math/bits.deBruijn64tab"], apart := false, laid := [("math/bits.deBruijn64tab", laid_math_bits_deBruijn64tab)], narrowed := true }
def BytesetJoinsUptoSaid : Prop := bytesetJoinsUptoRow.holds Tryd.pinned (OpenSpec.upto bytesetJoinsSpec)

/-- 'configlanglaw03.BytesetCounts', WHERE WHAT IT READS IS OF BULK AT MOST 1048576: true; the input reads as it did. -/
def bytesetCountsUptoRow : OpenClaim := { program := "ytmkmbpiaolmncaadoor", sum := "ca9c9c65dba2d21a78dcb62a9856dafb832fd4dd53b1a11b21eb12c91160846c", func := "configlang/configlanglaw03.BytesetCounts", spec := "bytesetCounts", unfollowed := true, recurses := true, named := ["math/bits.deBruijn64tab"], apart := false, laid := [("math/bits.deBruijn64tab", laid_math_bits_deBruijn64tab)], narrowed := true }
def BytesetCountsUptoSaid : Prop := bytesetCountsUptoRow.holds Tryd.pinned (OpenSpec.upto bytesetCountsSpec)

/-- 'configlanglaw03.BytesetRanges', WHERE WHAT IT READS IS OF BULK AT MOST 1048576: true; the input reads as it did. -/
def bytesetRangesUptoRow : OpenClaim := { program := "ytmkmbpiaolmncaadoor", sum := "ca9c9c65dba2d21a78dcb62a9856dafb832fd4dd53b1a11b21eb12c91160846c", func := "configlang/configlanglaw03.BytesetRanges", spec := "bytesetRanges", unfollowed := true, recurses := true, named := ["math/bits.deBruijn64tab"], apart := false, laid := [("math/bits.deBruijn64tab", laid_math_bits_deBruijn64tab)], narrowed := true }
def BytesetRangesUptoSaid : Prop := bytesetRangesUptoRow.holds Tryd.pinned (OpenSpec.upto bytesetRangesSpec)

/-- 'configlanglaw03.BytesetParts', WHERE WHAT IT READS IS OF BULK AT MOST 1048576: true; the input reads as it did. -/
def bytesetPartsUptoRow : OpenClaim := { program := "ytmkmbpiaolmncaadoor", sum := "ca9c9c65dba2d21a78dcb62a9856dafb832fd4dd53b1a11b21eb12c91160846c", func := "configlang/configlanglaw03.BytesetParts", spec := "bytesetParts", unfollowed := true, recurses := true, named := ["math/bits.deBruijn64tab"], apart := false, laid := [("math/bits.deBruijn64tab", laid_math_bits_deBruijn64tab)], narrowed := true }
def BytesetPartsUptoSaid : Prop := bytesetPartsUptoRow.holds Tryd.pinned (OpenSpec.upto bytesetPartsSpec)

/-- 'configlanglaw03.BytesetAlgebra', WHERE WHAT IT READS IS OF BULK AT MOST 1048576: true; the input reads as it did. -/
def bytesetAlgebraUptoRow : OpenClaim := { program := "ytmkmbpiaolmncaadoor", sum := "ca9c9c65dba2d21a78dcb62a9856dafb832fd4dd53b1a11b21eb12c91160846c", func := "configlang/configlanglaw03.BytesetAlgebra", spec := "bytesetAlgebra", unfollowed := true, recurses := true, named := ["math/bits.deBruijn64tab"], apart := false, laid := [("math/bits.deBruijn64tab", laid_math_bits_deBruijn64tab)], narrowed := true }
def BytesetAlgebraUptoSaid : Prop := bytesetAlgebraUptoRow.holds Tryd.pinned (OpenSpec.upto bytesetAlgebraSpec)

/-- 'configlanglaw03.BytesetUnites', WHERE WHAT IT READS IS OF BULK AT MOST 1048576: true; the input reads as it did. -/
def bytesetUnitesUptoRow : OpenClaim := { program := "ytmkmbpiaolmncaadoor", sum := "ca9c9c65dba2d21a78dcb62a9856dafb832fd4dd53b1a11b21eb12c91160846c", func := "configlang/configlanglaw03.BytesetUnites", spec := "bytesetUnites", unfollowed := true, recurses := true, named := ["math/bits.deBruijn64tab"], apart := false, laid := [("math/bits.deBruijn64tab", laid_math_bits_deBruijn64tab)], narrowed := true }
def BytesetUnitesUptoSaid : Prop := bytesetUnitesUptoRow.holds Tryd.pinned (OpenSpec.upto bytesetUnitesSpec)

/-- 'configlanglaw03.BytesetSplits', WHERE WHAT IT READS IS OF BULK AT MOST 1048576: true; the input reads as it did. -/
def bytesetSplitsUptoRow : OpenClaim := { program := "ytmkmbpiaolmncaadoor", sum := "ca9c9c65dba2d21a78dcb62a9856dafb832fd4dd53b1a11b21eb12c91160846c", func := "configlang/configlanglaw03.BytesetSplits", spec := "bytesetSplits", unfollowed := true, recurses := true, named := ["math/bits.deBruijn64tab"], apart := false, laid := [("math/bits.deBruijn64tab", laid_math_bits_deBruijn64tab)], narrowed := true }
def BytesetSplitsUptoSaid : Prop := bytesetSplitsUptoRow.holds Tryd.pinned (OpenSpec.upto bytesetSplitsSpec)

end Rows
end Go.Proofs.YtmkmbpiaolmncaaDoor
