/-
  No cell of these rows narrows 'for every input' (looked for: loops, veiled, ifaces, maps, wideKeys, modest, calm, conditions, laid).
  DERIVED. THE GIVEN ROWS OF THIS SEAT. 9 by the template 'for every input the law returns true; each argument reads behind the call as it read before'; 0 by the template 'total and deterministic' (their statements: YtadeejoekeaeeaaTotals.lean).
  GIVEN WITH THE SEED: the statements are not yours to turn. If you find one false, say at which input.
  Laid BY PROGRAM, IN A SANDBOX (cutbox-rows.mjs): the forced cells as the released guide's own fill.sh prints them over the translation e580637c597ac486… (all of the seat's roots in one cut). By AI agents, Wed Nov 11 2026. No macro, syntax, notation, axiom, sorry.
-/
import Derived.Test.YtadeejoekeaeeaaChecked
import GoSem.Claim
import GoSem.ClaimJoined
import GoSem.ClaimMapViews
import Derived.JoinedTies
import Derived.KernelRfl
namespace Go.Proofs.Ytadeejoekeaeeaa
/- THE CELL 'sum', in the pinned program and in every row, IS THE sha256 OF THE DUMP (.gsa) THAT YtadeejoekeaeeaaProg.lean LOADS. Nothing in Lean hashes anything: it is a label: what it is worth is what the hold of that sum in a sandbox is worth. -/
noncomputable def Try.pinned : Pinned := { name := "ytadeejoekeaeeaa", sum := "e580637c597ac48654ea396b9a805ea2b3c9d3b1d670f2fbd32ed7501b28821a", checked := Try.checked }
namespace Rows
def none {H : Type} : Left H := { results := [], args := [] }

/-- 'configlanglaw02.QuoteWrites': WHATEVER THE INPUT: true; the input reads as it did. -/
def quoteWritesSpec : ChangeSpec := { name := "quoteWrites", fn := fun _ => fun
  | [d] => { results := [.lit (.bool true)], args := [d] }
  | _ => none }
def quoteWritesRow : OpenClaim := { program := "ytadeejoekeaeeaa", sum := "e580637c597ac48654ea396b9a805ea2b3c9d3b1d670f2fbd32ed7501b28821a", func := "configlang/configlanglaw02.QuoteWrites", spec := "quoteWrites", inPlace := ["internal/abi.NoEscape", "internal/bytealg.MakeNoZero"], unfollowed := true, recurses := true, apart := false }
def QuoteWritesSaid : Prop := quoteWritesRow.holds Try.pinned (OpenSpec.ofChange quoteWritesSpec)

/-- ITS FALSE NEIGHBOUR: 'it returns false'. Refute it at one input. -/
def quoteWritesWrong : ChangeSpec := { name := "quoteWrites", fn := fun _ => fun
  | [d] => { results := [.lit (.bool false)], args := [d] }
  | _ => none }
def QuoteWritesWrongFalsely : Prop := quoteWritesRow.holds Try.pinned (OpenSpec.ofChange quoteWritesWrong)

/-- 'configlanglaw02.QuoteReads': WHATEVER THE INPUT: true; the input reads as it did. -/
def quoteReadsSpec : ChangeSpec := { name := "quoteReads", fn := fun _ => fun
  | [d] => { results := [.lit (.bool true)], args := [d] }
  | _ => none }
def quoteReadsRow : OpenClaim := { program := "ytadeejoekeaeeaa", sum := "e580637c597ac48654ea396b9a805ea2b3c9d3b1d670f2fbd32ed7501b28821a", func := "configlang/configlanglaw02.QuoteReads", spec := "quoteReads", inPlace := ["internal/abi.NoEscape", "internal/bytealg.MakeNoZero"], unfollowed := true, recurses := true, apart := false }
def QuoteReadsSaid : Prop := quoteReadsRow.holds Try.pinned (OpenSpec.ofChange quoteReadsSpec)

/-- ITS FALSE NEIGHBOUR: 'it returns false'. Refute it at one input. -/
def quoteReadsWrong : ChangeSpec := { name := "quoteReads", fn := fun _ => fun
  | [d] => { results := [.lit (.bool false)], args := [d] }
  | _ => none }
def QuoteReadsWrongFalsely : Prop := quoteReadsRow.holds Try.pinned (OpenSpec.ofChange quoteReadsWrong)

/-- 'configlanglaw02.QuoteLimit': WHATEVER THE INPUT: true; the input reads as it did. -/
def quoteLimitSpec : ChangeSpec := { name := "quoteLimit", fn := fun _ => fun
  | [d1, d2] => { results := [.lit (.bool true)], args := [d1, d2] }
  | _ => none }
def quoteLimitRow : OpenClaim := { program := "ytadeejoekeaeeaa", sum := "e580637c597ac48654ea396b9a805ea2b3c9d3b1d670f2fbd32ed7501b28821a", func := "configlang/configlanglaw02.QuoteLimit", spec := "quoteLimit", inPlace := ["internal/abi.NoEscape", "internal/bytealg.MakeNoZero"], unfollowed := true, recurses := true, apart := false }
def QuoteLimitSaid : Prop := quoteLimitRow.holds Try.pinned (OpenSpec.ofChange quoteLimitSpec)

/-- ITS FALSE NEIGHBOUR: 'it returns false'. Refute it at one input. -/
def quoteLimitWrong : ChangeSpec := { name := "quoteLimit", fn := fun _ => fun
  | [d1, d2] => { results := [.lit (.bool false)], args := [d1, d2] }
  | _ => none }
def QuoteLimitWrongFalsely : Prop := quoteLimitRow.holds Try.pinned (OpenSpec.ofChange quoteLimitWrong)

/-- 'configlanglaw02.QuoteBack': WHATEVER THE INPUT: true; the input reads as it did. -/
def quoteBackSpec : ChangeSpec := { name := "quoteBack", fn := fun _ => fun
  | [d] => { results := [.lit (.bool true)], args := [d] }
  | _ => none }
def quoteBackRow : OpenClaim := { program := "ytadeejoekeaeeaa", sum := "e580637c597ac48654ea396b9a805ea2b3c9d3b1d670f2fbd32ed7501b28821a", func := "configlang/configlanglaw02.QuoteBack", spec := "quoteBack", inPlace := ["internal/abi.NoEscape", "internal/bytealg.MakeNoZero"], unfollowed := true, recurses := true, apart := false }
def QuoteBackSaid : Prop := quoteBackRow.holds Try.pinned (OpenSpec.ofChange quoteBackSpec)

/-- ITS FALSE NEIGHBOUR: 'it returns false'. Refute it at one input. -/
def quoteBackWrong : ChangeSpec := { name := "quoteBack", fn := fun _ => fun
  | [d] => { results := [.lit (.bool false)], args := [d] }
  | _ => none }
def QuoteBackWrongFalsely : Prop := quoteBackRow.holds Try.pinned (OpenSpec.ofChange quoteBackWrong)

/-- 'configlanglaw02.QuoteNames': WHATEVER THE INPUT: true; the input reads as it did. -/
def quoteNamesSpec : ChangeSpec := { name := "quoteNames", fn := fun _ => fun
  | [d] => { results := [.lit (.bool true)], args := [d] }
  | _ => none }
def quoteNamesRow : OpenClaim := { program := "ytadeejoekeaeeaa", sum := "e580637c597ac48654ea396b9a805ea2b3c9d3b1d670f2fbd32ed7501b28821a", func := "configlang/configlanglaw02.QuoteNames", spec := "quoteNames", inPlace := ["internal/abi.NoEscape", "internal/bytealg.MakeNoZero"], unfollowed := true, recurses := true, apart := false }
def QuoteNamesSaid : Prop := quoteNamesRow.holds Try.pinned (OpenSpec.ofChange quoteNamesSpec)

/-- ITS FALSE NEIGHBOUR: 'it returns false'. Refute it at one input. -/
def quoteNamesWrong : ChangeSpec := { name := "quoteNames", fn := fun _ => fun
  | [d] => { results := [.lit (.bool false)], args := [d] }
  | _ => none }
def QuoteNamesWrongFalsely : Prop := quoteNamesRow.holds Try.pinned (OpenSpec.ofChange quoteNamesWrong)

/-- 'configlanglaw02.QuoteLabels': WHATEVER THE INPUT: true; the input reads as it did. -/
def quoteLabelsSpec : ChangeSpec := { name := "quoteLabels", fn := fun _ => fun
  | [d] => { results := [.lit (.bool true)], args := [d] }
  | _ => none }
def quoteLabelsRow : OpenClaim := { program := "ytadeejoekeaeeaa", sum := "e580637c597ac48654ea396b9a805ea2b3c9d3b1d670f2fbd32ed7501b28821a", func := "configlang/configlanglaw02.QuoteLabels", spec := "quoteLabels", inPlace := ["internal/abi.NoEscape", "internal/bytealg.MakeNoZero"], unfollowed := true, recurses := true, apart := false }
def QuoteLabelsSaid : Prop := quoteLabelsRow.holds Try.pinned (OpenSpec.ofChange quoteLabelsSpec)

/-- ITS FALSE NEIGHBOUR: 'it returns false'. Refute it at one input. -/
def quoteLabelsWrong : ChangeSpec := { name := "quoteLabels", fn := fun _ => fun
  | [d] => { results := [.lit (.bool false)], args := [d] }
  | _ => none }
def QuoteLabelsWrongFalsely : Prop := quoteLabelsRow.holds Try.pinned (OpenSpec.ofChange quoteLabelsWrong)

/-- 'configlanglaw02.QuoteApart': WHATEVER THE INPUT: true; the input reads as it did. -/
def quoteApartSpec : ChangeSpec := { name := "quoteApart", fn := fun _ => fun
  | [d1, d2] => { results := [.lit (.bool true)], args := [d1, d2] }
  | _ => none }
def quoteApartRow : OpenClaim := { program := "ytadeejoekeaeeaa", sum := "e580637c597ac48654ea396b9a805ea2b3c9d3b1d670f2fbd32ed7501b28821a", func := "configlang/configlanglaw02.QuoteApart", spec := "quoteApart", inPlace := ["internal/abi.NoEscape", "internal/bytealg.MakeNoZero"], unfollowed := true, recurses := true, apart := false }
def QuoteApartSaid : Prop := quoteApartRow.holds Try.pinned (OpenSpec.ofChange quoteApartSpec)

/-- ITS FALSE NEIGHBOUR: 'it returns false'. Refute it at one input. -/
def quoteApartWrong : ChangeSpec := { name := "quoteApart", fn := fun _ => fun
  | [d1, d2] => { results := [.lit (.bool false)], args := [d1, d2] }
  | _ => none }
def QuoteApartWrongFalsely : Prop := quoteApartRow.holds Try.pinned (OpenSpec.ofChange quoteApartWrong)

/-- 'configlanglaw02.QuoteJoins': WHATEVER THE INPUT: true; the input reads as it did. -/
def quoteJoinsSpec : ChangeSpec := { name := "quoteJoins", fn := fun _ => fun
  | [d1, d2] => { results := [.lit (.bool true)], args := [d1, d2] }
  | _ => none }
def quoteJoinsRow : OpenClaim := { program := "ytadeejoekeaeeaa", sum := "e580637c597ac48654ea396b9a805ea2b3c9d3b1d670f2fbd32ed7501b28821a", func := "configlang/configlanglaw02.QuoteJoins", spec := "quoteJoins", inPlace := ["internal/abi.NoEscape", "internal/bytealg.MakeNoZero"], unfollowed := true, recurses := true, apart := false }
def QuoteJoinsSaid : Prop := quoteJoinsRow.holds Try.pinned (OpenSpec.ofChange quoteJoinsSpec)

/-- ITS FALSE NEIGHBOUR: 'it returns false'. Refute it at one input. -/
def quoteJoinsWrong : ChangeSpec := { name := "quoteJoins", fn := fun _ => fun
  | [d1, d2] => { results := [.lit (.bool false)], args := [d1, d2] }
  | _ => none }
def QuoteJoinsWrongFalsely : Prop := quoteJoinsRow.holds Try.pinned (OpenSpec.ofChange quoteJoinsWrong)

/-- 'configlanglaw02.QuoteCut': WHATEVER THE INPUT: true; the input reads as it did. -/
def quoteCutSpec : ChangeSpec := { name := "quoteCut", fn := fun _ => fun
  | [d1, d2, d3] => { results := [.lit (.bool true)], args := [d1, d2, d3] }
  | _ => none }
def quoteCutRow : OpenClaim := { program := "ytadeejoekeaeeaa", sum := "e580637c597ac48654ea396b9a805ea2b3c9d3b1d670f2fbd32ed7501b28821a", func := "configlang/configlanglaw02.QuoteCut", spec := "quoteCut", inPlace := ["internal/abi.NoEscape", "internal/bytealg.MakeNoZero"], unfollowed := true, recurses := true, apart := false }
def QuoteCutSaid : Prop := quoteCutRow.holds Try.pinned (OpenSpec.ofChange quoteCutSpec)

/-- ITS FALSE NEIGHBOUR: 'it returns false'. Refute it at one input. -/
def quoteCutWrong : ChangeSpec := { name := "quoteCut", fn := fun _ => fun
  | [d1, d2, d3] => { results := [.lit (.bool false)], args := [d1, d2, d3] }
  | _ => none }
def QuoteCutWrongFalsely : Prop := quoteCutRow.holds Try.pinned (OpenSpec.ofChange quoteCutWrong)

/- THE SECOND FORM. 'bulk': how many values and letters a reading holds, each counted each time it is reached (what is shared counts as often as it is met; a slice's spare places count too). A statement '..UptoSaid' is the law's where the arguments, and the package variables that the reading takes, are together of bulk at most 1048576: NARROWER than '..Said'. Prove '..Said' where nothing that the law and all that it calls make is longer than what came in: it says more and counts as full. Else prove '..UptoSaid'. A law counts once. -/
mutual
def uptoBulk {H : Type} : DataW H → Nat
  | .lit (.string bytes) => bytes.length + 1
  | .lit _ => 1
  | .nil => 1
  | .ptr d => uptoBulk d + 1
  | .slice elems spare => uptoBulkAll elems + uptoBulkAll spare + 1
  | .agg parts => uptoBulkAll parts + 1
  | .iface _ d => uptoBulk d + 1
  | .map entries => uptoBulkEntries entries + 1
  | .held _ => 1
def uptoBulkAll {H : Type} : List (DataW H) → Nat
  | [] => 0
  | d :: r => uptoBulk d + uptoBulkAll r
def uptoBulkEntries {H : Type} : List (Lit × DataW H) → Nat
  | [] => 0
  | x :: r => uptoBulkEntry x + uptoBulkEntries r
def uptoBulkEntry {H : Type} : Lit × DataW H → Nat
  | (.string bytes, d) => bytes.length + uptoBulk d + 1
  | (_, d) => uptoBulk d + 1
 end
def uptoSmall : (H : Type) → List (DataW H) → Bool := fun _ ds => decide (uptoBulkAll ds ≤ 1048576)
def OpenSpec.upto (s : _root_.Go.ChangeSpec) : _root_.Go.OpenSpec := { _root_.Go.OpenSpec.ofChange s with cond := some uptoSmall }

/-- 'configlanglaw02.QuoteWrites', WHERE WHAT IT READS IS OF BULK AT MOST 1048576: true; the input reads as it did. -/
def quoteWritesUptoRow : OpenClaim := { program := "ytadeejoekeaeeaa", sum := "e580637c597ac48654ea396b9a805ea2b3c9d3b1d670f2fbd32ed7501b28821a", func := "configlang/configlanglaw02.QuoteWrites", spec := "quoteWrites", inPlace := ["internal/abi.NoEscape", "internal/bytealg.MakeNoZero"], unfollowed := true, recurses := true, apart := false, narrowed := true }
def QuoteWritesUptoSaid : Prop := quoteWritesUptoRow.holds Try.pinned (OpenSpec.upto quoteWritesSpec)

/-- 'configlanglaw02.QuoteReads', WHERE WHAT IT READS IS OF BULK AT MOST 1048576: true; the input reads as it did. -/
def quoteReadsUptoRow : OpenClaim := { program := "ytadeejoekeaeeaa", sum := "e580637c597ac48654ea396b9a805ea2b3c9d3b1d670f2fbd32ed7501b28821a", func := "configlang/configlanglaw02.QuoteReads", spec := "quoteReads", inPlace := ["internal/abi.NoEscape", "internal/bytealg.MakeNoZero"], unfollowed := true, recurses := true, apart := false, narrowed := true }
def QuoteReadsUptoSaid : Prop := quoteReadsUptoRow.holds Try.pinned (OpenSpec.upto quoteReadsSpec)

/-- 'configlanglaw02.QuoteLimit', WHERE WHAT IT READS IS OF BULK AT MOST 1048576: true; the input reads as it did. -/
def quoteLimitUptoRow : OpenClaim := { program := "ytadeejoekeaeeaa", sum := "e580637c597ac48654ea396b9a805ea2b3c9d3b1d670f2fbd32ed7501b28821a", func := "configlang/configlanglaw02.QuoteLimit", spec := "quoteLimit", inPlace := ["internal/abi.NoEscape", "internal/bytealg.MakeNoZero"], unfollowed := true, recurses := true, apart := false, narrowed := true }
def QuoteLimitUptoSaid : Prop := quoteLimitUptoRow.holds Try.pinned (OpenSpec.upto quoteLimitSpec)

/-- 'configlanglaw02.QuoteBack', WHERE WHAT IT READS IS OF BULK AT MOST 1048576: true; the input reads as it did. -/
def quoteBackUptoRow : OpenClaim := { program := "ytadeejoekeaeeaa", sum := "e580637c597ac48654ea396b9a805ea2b3c9d3b1d670f2fbd32ed7501b28821a", func := "configlang/configlanglaw02.QuoteBack", spec := "quoteBack", inPlace := ["internal/abi.NoEscape", "internal/bytealg.MakeNoZero"], unfollowed := true, recurses := true, apart := false, narrowed := true }
def QuoteBackUptoSaid : Prop := quoteBackUptoRow.holds Try.pinned (OpenSpec.upto quoteBackSpec)

/-- 'configlanglaw02.QuoteNames', WHERE WHAT IT READS IS OF BULK AT MOST 1048576: true; the input reads as it did. -/
def quoteNamesUptoRow : OpenClaim := { program := "ytadeejoekeaeeaa", sum := "e580637c597ac48654ea396b9a805ea2b3c9d3b1d670f2fbd32ed7501b28821a", func := "configlang/configlanglaw02.QuoteNames", spec := "quoteNames", inPlace := ["internal/abi.NoEscape", "internal/bytealg.MakeNoZero"], unfollowed := true, recurses := true, apart := false, narrowed := true }
def QuoteNamesUptoSaid : Prop := quoteNamesUptoRow.holds Try.pinned (OpenSpec.upto quoteNamesSpec)

/-- 'configlanglaw02.QuoteLabels', WHERE WHAT IT READS IS OF BULK AT MOST 1048576: true; the input reads as it did. -/
def quoteLabelsUptoRow : OpenClaim := { program := "ytadeejoekeaeeaa", sum := "e580637c597ac48654ea396b9a805ea2b3c9d3b1d670f2fbd32ed7501b28821a", func := "configlang/configlanglaw02.QuoteLabels", spec := "quoteLabels", inPlace := ["internal/abi.NoEscape", "internal/bytealg.MakeNoZero"], unfollowed := true, recurses := true, apart := false, narrowed := true }
def QuoteLabelsUptoSaid : Prop := quoteLabelsUptoRow.holds Try.pinned (OpenSpec.upto quoteLabelsSpec)

/-- 'configlanglaw02.QuoteApart', WHERE WHAT IT READS IS OF BULK AT MOST 1048576: true; the input reads as it did. -/
def quoteApartUptoRow : OpenClaim := { program := "ytadeejoekeaeeaa", sum := "e580637c597ac48654ea396b9a805ea2b3c9d3b1d670f2fbd32ed7501b28821a", func := "configlang/configlanglaw02.QuoteApart", spec := "quoteApart", inPlace := ["internal/abi.NoEscape", "internal/bytealg.MakeNoZero"], unfollowed := true, recurses := true, apart := false, narrowed := true }
def QuoteApartUptoSaid : Prop := quoteApartUptoRow.holds Try.pinned (OpenSpec.upto quoteApartSpec)

/-- 'configlanglaw02.QuoteJoins', WHERE WHAT IT READS IS OF BULK AT MOST 1048576: true; the input reads as it did. -/
def quoteJoinsUptoRow : OpenClaim := { program := "ytadeejoekeaeeaa", sum := "e580637c597ac48654ea396b9a805ea2b3c9d3b1d670f2fbd32ed7501b28821a", func := "configlang/configlanglaw02.QuoteJoins", spec := "quoteJoins", inPlace := ["internal/abi.NoEscape", "internal/bytealg.MakeNoZero"], unfollowed := true, recurses := true, apart := false, narrowed := true }
def QuoteJoinsUptoSaid : Prop := quoteJoinsUptoRow.holds Try.pinned (OpenSpec.upto quoteJoinsSpec)

/-- 'configlanglaw02.QuoteCut', WHERE WHAT IT READS IS OF BULK AT MOST 1048576: true; the input reads as it did. -/
def quoteCutUptoRow : OpenClaim := { program := "ytadeejoekeaeeaa", sum := "e580637c597ac48654ea396b9a805ea2b3c9d3b1d670f2fbd32ed7501b28821a", func := "configlang/configlanglaw02.QuoteCut", spec := "quoteCut", inPlace := ["internal/abi.NoEscape", "internal/bytealg.MakeNoZero"], unfollowed := true, recurses := true, apart := false, narrowed := true }
def QuoteCutUptoSaid : Prop := quoteCutUptoRow.holds Try.pinned (OpenSpec.upto quoteCutSpec)

end Rows
end Go.Proofs.Ytadeejoekeaeeaa
