import Derived.Test.YtelchjgpfpccnaaDoorCards
import Derived.Test.YtelchjgpfpccnaaDoorTie
import Derived.Test.YtelchjgpfpccnaaDoorG
import Derived.ProofKit
import Derived.OpenShut
import Derived.ShutString
import Derived.ChangeOld
import Derived.Below
import Derived.Deep.DeepHandedRow
import Derived.Deep.DeepWitnessRowRef
import Derived.LaidMore
import Derived.Lib.SmallJoins
namespace Go.Proofs.YtelchjgpfpccnaaDoor
open Go.ChangeShapes Go.WideShapes Go.ChangeAt Go.RowKit
set_option linter.unusedSimpArgs false
set_option linter.unusedVariables false

theorem own : ownKnob Tryd.prog.godebug = none := by kernel_rfl
theorem laidOut : laidOutB Tryd.prog = true := by kernel_rfl
theorem cells23 : Tryd.prog.cellsOf 23 = 3 := by kernel_rfl
theorem maxLen_of {W : World} (h : W.ShapedOpen Tryd.prog) : Mx W := by
  obtain ⟨m, hm⟩ := Tryd.laysM147.s1_3 W h
  exact ⟨World.block_lt_of_cell? W _ hm, m, hm⟩
set_option maxRecDepth 100000 in
theorem one3 (f0 f1 f2 : Field) (h : Tryd.prog.underlying 23 = some (.struct #[f0, f1, f2])) : f0.type = 3 ∧ f1.type = 3 ∧ f2.type = 3 := by
  have := Tryd.underlying23.symm.trans h
  simp only [Option.some.injEq, TypeDesc.struct.injEq] at this
  have h0 := congrArg (fun x : Array Field => x.toList) this
  simp at h0
  obtain ⟨h0, h1, h2⟩ := h0
  subst h0 h1 h2
  exact ⟨rfl, rfl, rfl⟩
set_option maxRecDepth 100000 in
/-- A VERSION THAT CAME IN, by value -/
theorem open_vv {H : Type} {enc : TypeId × Value → H} {W : World} {base : Nat} {sp : Nat → Bool} {v : Value} {d : DataW H} {p : List MemPlace}
    (hv : Value.okWide Tryd.prog W .any base 23 v) (h : DataW.Trod enc Tryd.prog W 0 sp true 23 v d p) : ∃ a b c : Int, v = vv a b c := by
  obtain ⟨c0, c1, c2, y0, y1, y2, m, rfl, rfl, rfl, hy0, hy1, hy2⟩ := Joins.open_agg3 Tryd.underlying23 (by kernel_rfl) cells23 hv h
  obtain ⟨x0, e0, rfl, w0⟩ := DataW.trod_int Tryd.underlying3 hy0
  obtain ⟨x1, e1, rfl, w1⟩ := DataW.trod_int Tryd.underlying3 hy1
  obtain ⟨x2, e2, rfl, w2⟩ := DataW.trod_int Tryd.underlying3 hy2
  simp at e0 e1 e2
  subst e0 e1 e2
  exact ⟨x0, x1, x2, rfl⟩
set_option maxRecDepth 100000 in
theorem open_i64 {H : Type} {enc : TypeId × Value → H} {W : World} {base : Nat} {sp : Nat → Bool} {v : Value} {d : DataW H} {p : List MemPlace}
    (hv : Value.okWide Tryd.prog W .any base 3 v) (h : DataW.Trod enc Tryd.prog W 0 sp true 3 v d p) : ∃ n : Int, v = .int .i64 n := by
  obtain ⟨n, rfl, _, _, _⟩ := open_int Tryd.underlying3 hv h
  exact ⟨n, rfl⟩

/-- a world for the witnesses: what the door's run leaves, the pinned table as its text lays it -/
noncomputable def lw (os : Os) : World :=
  { World.doorLaid Tryd.prog 72 os with heap := (World.doorLaid Tryd.prog 72 os).heap.modify ((Tryd.prog.globalNamed "unicode/utf8.first").getD 0) fun
      | .cells _ t frozen => .cells (Go.Pinned.utf8FirstZ.map fun (n : Nat) => Value.int .u8 (n : Int)).toArray t frozen
      | o => o }
set_option maxRecDepth 100000 in
theorem lw_laid (os : Os) : laidMetH Tryd.prog Rows.semverOrderRow.laid ((lw os).forCall (fun _ _ => 0) ⟨#[], #[.agg #[.int .i64 0, .int .i64 0, .int .i64 0], .agg #[.int .i64 0, .int .i64 0, .int .i64 0], .agg #[.int .i64 0, .int .i64 0, .int .i64 0]], []⟩).memory :=
  laidMetH_of_parts3 (fuel := 8) (laidMet_of_run' 8 (by kernel_rfl) (by kernel_rfl)) (by kernel_rfl) (by kernel_rfl)
end Go.Proofs.YtelchjgpfpccnaaDoor
