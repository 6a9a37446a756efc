/-
  What the rows' list gives: the table of powers of ten. No condition.
-/
import Derived.Test.YtelchjgpfpccnaaDoorFrame
import Derived.Test.YtelchjgpfpccnaaDoorT2
import Derived.Lib.LaidTab
import Derived.LaidSub
namespace Go.Proofs.YtelchjgpfpccnaaDoor
open Go.ChangeShapes Go.WideShapes Go.ChangeAt Go.RowKit
set_option linter.unusedSimpArgs false
set_option linter.unusedVariables false
theorem gP10 : Tryd.prog.globalNamed "internal/strconv.uint64pow10" = some 0 := by kernel_rfl
theorem gP10T : (Tryd.prog.globals[0]?).map (·.type) = some 77 := by kernel_rfl
theorem cells77 : Tryd.prog.cellsOf 77 = 20 := by kernel_rfl
theorem cells61 : Tryd.prog.cellsOf 61 = 1 := by kernel_rfl
def pow10L : List Int := [1, 10, 100, 1000, 10000, 100000, 1000000, 10000000, 100000000, 1000000000, 10000000000, 100000000000, 1000000000000, 10000000000000, 100000000000000, 1000000000000000, 10000000000000000, 100000000000000000, 1000000000000000000, 10000000000000000000]
theorem pow10_eq : Lib.pow10Tab = pow10L := by decide +kernel
theorem keep_one (l : List (String × DataW Unit)) (a b c d e f g : DataW Unit)
    (h : l = [("math/bits.deBruijn32tab", a), ("math/bits.deBruijn64tab", b), ("internal/strconv.uint64pow10", c), ("unicode/utf8.acceptRanges", d), ("strconv.ErrRange", e), ("strconv.ErrSyntax", f), ("unicode/utf8.first", g)]) :
    l.filter (fun x => x.1 == "internal/strconv.uint64pow10") = [("internal/strconv.uint64pow10", c)] := by
  subst h
  simp
theorem p10_of {W : World} (h : laidMetH Tryd.prog Rows.semverTextsRow.laid W) : P10 W := by
  have h1 := h.filter (fun x => x.1 == "internal/strconv.uint64pow10")
  rw [keep_one Rows.semverTextsRow.laid _ _ _ _ _ _ _ rfl] at h1
  have h2 : Lib.TabIs Tryd.prog W "internal/strconv.uint64pow10" .u64 pow10L := Lib.tabIs_of_head (rest := []) gP10 gP10T Tryd.underlying77 Tryd.underlying61 cells61 cells77 h1
  unfold P10
  rw [pow10_eq]
  exact h2
end Go.Proofs.YtelchjgpfpccnaaDoor
