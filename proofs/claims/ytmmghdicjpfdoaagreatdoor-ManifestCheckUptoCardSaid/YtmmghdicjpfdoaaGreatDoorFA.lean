/-
  What the rows' list gives: the table of powers of ten. No condition.
  What the rows' list gives: the two error variables of strconv hold interface values. No condition.
  A module that came in, opened. No condition.
-/
import Derived.Test.YtmmghdicjpfdoaaGreatDoorCards
import Derived.Test.YtmmghdicjpfdoaaGreatDoorTie
import Derived.Test.YtmmghdicjpfdoaaGreatDoorEA
import Derived.ProofKit
import Derived.OpenShut
import Derived.ShutString
import Derived.ChangeOld
import Derived.Below
import Derived.Deep.DeepHandedRow
import Derived.Deep.DeepWitnessRowRef
import Derived.LaidMore
import Derived.Lib.SmallJoins
import Derived.Lib.LaidTab
import Derived.LaidSub
import Derived.ChangeMaps5
namespace Go.Proofs.YtmmghdicjpfdoaaGreatDoor
open Go.ChangeShapes Go.WideShapes Go.ChangeAt Go.RowKit
set_option linter.unusedSimpArgs false
set_option linter.unusedVariables false

theorem own : ownKnob Tryz.prog.godebug = none := by kernel_rfl
theorem laidOut : laidOutB Tryz.prog = true := by kernel_rfl
theorem cells23 : Tryz.prog.cellsOf 23 = 3 := by kernel_rfl
theorem maxLen_of {W : World} (h : W.ShapedOpen Tryz.prog) : Mx W := by
  obtain ⟨m, hm⟩ : ∃ m : Int, W.cell? ⟨0, 0, none⟩ = some (.int .i64 m) := Go.Proofs.cell_of_shapedOpen_int (zero := #[.int .i64 0]) (t := 3) h (of_decide_eq_true (by kernel_rfl)) (by kernel_rfl) rfl (by kernel_rfl) (by kernel_rfl) Tryz.underlying3
  exact ⟨World.block_lt_of_cell? W _ hm, m, hm⟩
set_option maxRecDepth 100000 in
theorem one3 (f0 f1 f2 : Field) (h : Tryz.prog.underlying 23 = some (.struct #[f0, f1, f2])) : f0.type = 3 ∧ f1.type = 3 ∧ f2.type = 3 := by
  have := Tryz.underlying23.symm.trans h
  simp only [Option.some.injEq, TypeDesc.struct.injEq] at this
  have h0 := congrArg (fun x : Array Field => x.toList) this
  simp at h0
  obtain ⟨h0, h1, h2⟩ := h0
  subst h0 h1 h2
  exact ⟨rfl, rfl, rfl⟩
set_option maxRecDepth 100000 in
/-- A VERSION THAT CAME IN, by value -/
theorem open_vv {H : Type} {enc : TypeId × Value → H} {W : World} {base : Nat} {sp : Nat → Bool} {v : Value} {d : DataW H} {p : List MemPlace}
    (hv : Value.okWide Tryz.prog W .any base 23 v) (h : DataW.Trod enc Tryz.prog W 0 sp true 23 v d p) : ∃ a b c : Int, v = vv a b c := by
  obtain ⟨c0, c1, c2, y0, y1, y2, m, rfl, rfl, rfl, hy0, hy1, hy2⟩ := Joins.open_agg3 Tryz.underlying23 (by kernel_rfl) cells23 hv h
  obtain ⟨x0, e0, rfl, w0⟩ := DataW.trod_int Tryz.underlying3 hy0
  obtain ⟨x1, e1, rfl, w1⟩ := DataW.trod_int Tryz.underlying3 hy1
  obtain ⟨x2, e2, rfl, w2⟩ := DataW.trod_int Tryz.underlying3 hy2
  simp at e0 e1 e2
  subst e0 e1 e2
  exact ⟨x0, x1, x2, rfl⟩
set_option maxRecDepth 100000 in
theorem open_i64 {H : Type} {enc : TypeId × Value → H} {W : World} {base : Nat} {sp : Nat → Bool} {v : Value} {d : DataW H} {p : List MemPlace}
    (hv : Value.okWide Tryz.prog W .any base 3 v) (h : DataW.Trod enc Tryz.prog W 0 sp true 3 v d p) : ∃ n : Int, v = .int .i64 n := by
  obtain ⟨n, rfl, _, _, _⟩ := open_int Tryz.underlying3 hv h
  exact ⟨n, rfl⟩

/-- a world for the witnesses: what the door's run leaves, the pinned table as its text lays it -/
noncomputable def lw (os : Os) : World :=
  { World.doorLaid Tryz.prog 72 os with heap := (World.doorLaid Tryz.prog 72 os).heap.modify ((Tryz.prog.globalNamed "unicode/utf8.first").getD 0) fun
      | .cells _ t frozen => .cells (Go.Pinned.utf8FirstZ.map fun (n : Nat) => Value.int .u8 (n : Int)).toArray t frozen
      | o => o }
set_option maxRecDepth 100000 in
theorem lw_laid (os : Os) : laidMetH Tryz.prog Rows.manifestPathsRow.laid ((lw os).forCall (fun _ _ => 0) ⟨#[], #[.string ⟨#[]⟩, .string ⟨#[]⟩], []⟩).memory :=
  laidMetH_of_parts3 (fuel := 8) (laidMet_of_run' 8 (by kernel_rfl) (by kernel_rfl)) (by kernel_rfl) (by kernel_rfl)
end Go.Proofs.YtmmghdicjpfdoaaGreatDoor
namespace Go.Proofs.YtmmghdicjpfdoaaGreatDoor
open Go.ChangeShapes Go.WideShapes Go.ChangeAt Go.RowKit
set_option linter.unusedSimpArgs false
set_option linter.unusedVariables false
theorem gP10 : Tryz.prog.globalNamed "internal/strconv.uint64pow10" = some 3 := by kernel_rfl
theorem gP10T : (Tryz.prog.globals[3]?).map (·.type) = some 161 := by kernel_rfl
theorem cells161 : Tryz.prog.cellsOf 161 = 20 := by kernel_rfl
theorem cells128 : Tryz.prog.cellsOf 128 = 1 := by kernel_rfl
def pow10L : List Int := [1, 10, 100, 1000, 10000, 100000, 1000000, 10000000, 100000000, 1000000000, 10000000000, 100000000000, 1000000000000, 10000000000000, 100000000000000, 1000000000000000, 10000000000000000, 100000000000000000, 1000000000000000000, 10000000000000000000]
theorem pow10_eq : Lib.pow10Tab = pow10L := by decide +kernel
theorem keep_one (l : List (String × DataW Unit)) (a b c d e f g : DataW Unit)
    (h : l = [("math/bits.deBruijn32tab", a), ("math/bits.deBruijn64tab", b), ("internal/strconv.uint64pow10", c), ("unicode/utf8.acceptRanges", d), ("strconv.ErrRange", e), ("strconv.ErrSyntax", f), ("unicode/utf8.first", g)]) :
    l.filter (fun x => x.1 == "internal/strconv.uint64pow10") = [("internal/strconv.uint64pow10", c)] := by
  subst h
  simp
theorem p10_of {W : World} (h : laidMetH Tryz.prog Rows.manifestPathsRow.laid W) : P10 W := by
  have h1 := h.filter (fun x => x.1 == "internal/strconv.uint64pow10")
  rw [keep_one Rows.manifestPathsRow.laid _ _ _ _ _ _ _ rfl] at h1
  have h2 : Lib.TabIs Tryz.prog W "internal/strconv.uint64pow10" .u64 pow10L := Lib.tabIs_of_head (rest := []) gP10 gP10T Tryz.underlying161 Tryz.underlying128 cells128 cells161 h1
  unfold P10
  rw [pow10_eq]
  exact h2
end Go.Proofs.YtmmghdicjpfdoaaGreatDoor
namespace Go.Proofs.YtmmghdicjpfdoaaGreatDoor
open Go.ChangeShapes Go.WideShapes Go.ChangeAt Go.RowKit
set_option linter.unusedSimpArgs false
set_option linter.unusedVariables false
theorem gErrR : Tryz.prog.globalNamed "strconv.ErrRange" = some 5 := by kernel_rfl
theorem gErrS : Tryz.prog.globalNamed "strconv.ErrSyntax" = some 4 := by kernel_rfl
theorem gErrRT : (Tryz.prog.globals[5]?).map (·.type) = some 67 := by kernel_rfl
theorem gErrST : (Tryz.prog.globals[4]?).map (·.type) = some 67 := by kernel_rfl
theorem keep_err (n : String) (x : DataW Unit) (l : List (String × DataW Unit)) (a b c d e f g : DataW Unit)
    (h : l = [("math/bits.deBruijn32tab", a), ("math/bits.deBruijn64tab", b), ("internal/strconv.uint64pow10", c), ("unicode/utf8.acceptRanges", d), ("strconv.ErrRange", e), ("strconv.ErrSyntax", f), ("unicode/utf8.first", g)])
    (hx : (n = "strconv.ErrRange" ∧ x = e) ∨ (n = "strconv.ErrSyntax" ∧ x = f)) :
    l.filter (fun x => x.1 == n) = [(n, x)] := by
  subst h
  rcases hx with ⟨rfl, rfl⟩ | ⟨rfl, rfl⟩ <;> simp
theorem iface_cells {H : Type} {enc : TypeId × Value → H} {P : Program} {w : World} {b f : Nat} {sp : Nat → Bool} {held : Bool} {t : TypeId} {cs : List Value} {ms : Array (String × TypeId)} {r : DataW H × List MemPlace} (hi : P.underlying t = some (.interface ms))
    (h : DataW.trod enc P w b sp held f t cs = some r) : ∃ x, cs = [x] ∧ IsErr x := by
  cases f with
  | zero => simp [DataW.trod] at h
  | succ f =>
    unfold DataW.trod at h
    rw [hi] at h
    rcases cs with _ | ⟨x, _ | ⟨y, l⟩⟩
    · simp at h
    · refine ⟨x, rfl, ?_⟩
      unfold IsErr
      cases x <;> simp at h ⊢
    · cases x <;> simp at h
theorem iface_of_head {W : World} {n : String} {d : DataW Unit} {g : Nat} (hg : Tryz.prog.globalNamed n = some g) (hty : (Tryz.prog.globals[g]?).map (·.type) = some 67)
    (h : laidMet Tryz.prog [(n, d)] W) : g < W.heap.size ∧ ∃ v, W.cell? ⟨g, 0, none⟩ = some v ∧ IsErr v := by
  obtain ⟨ps, ⟨g', t', cs, fuel, p, q, hg', ht', hvar, hd, _, _⟩, _⟩ := h
  obtain rfl := Option.some.inj (hg.symm.trans hg')
  obtain rfl := Option.some.inj (hty.symm.trans ht')
  obtain ⟨x, hcs, hx⟩ := iface_cells Tryz.underlying67 hd
  have hc : W.cell? ⟨g, 0, none⟩ = some x := by
    have e : cs = #[x] := by cases cs; simp_all
    subst e
    simpa using World.var?_cell hg hvar 0
  exact ⟨World.block_lt_of_cell? W _ hc, x, hc, hx⟩
theorem er_of {W : World} (h : laidMetH Tryz.prog Rows.manifestPathsRow.laid W) : Er W := by
  have h1 := h.filter (fun x => x.1 == "strconv.ErrSyntax")
  have h2 := h.filter (fun x => x.1 == "strconv.ErrRange")
  rw [keep_err "strconv.ErrSyntax" _ Rows.manifestPathsRow.laid _ _ _ _ _ _ _ rfl (.inr ⟨rfl, rfl⟩)] at h1
  rw [keep_err "strconv.ErrRange" _ Rows.manifestPathsRow.laid _ _ _ _ _ _ _ rfl (.inl ⟨rfl, rfl⟩)] at h2
  have k1 := iface_of_head gErrS gErrST h1
  have k2 := iface_of_head gErrR gErrRT h2
  exact ⟨k2.1, k1.2, k2.2⟩
theorem p10_of' {W : World} (h : laidMetH Tryz.prog Rows.manifestPathsRow.laid W) : P10 W := p10_of h
end Go.Proofs.YtmmghdicjpfdoaaGreatDoor
namespace Go.Proofs.YtmmghdicjpfdoaaGreatDoor
open Go.ChangeShapes Go.WideShapes Go.ChangeAt Go.RowKit
set_option linter.unusedSimpArgs false
set_option linter.unusedVariables false
theorem cells25 : Tryz.prog.cellsOf 25 = 4 := by kernel_rfl
theorem cells9 : Tryz.prog.cellsOf 9 = 1 := by kernel_rfl
theorem cells3 : Tryz.prog.cellsOf 3 = 1 := by kernel_rfl
set_option maxRecDepth 100000 in
theorem trod_vv {H : Type} {enc : TypeId × Value → H} {W : World} {base f : Nat} {sp : Nat → Bool} {held : Bool} {cs : List Value} {y : DataW H × List MemPlace} (h : DataW.trod enc Tryz.prog W base sp held f 23 cs = some y) :
    ∃ a b c : Int, cs = [.int .i64 a, .int .i64 b, .int .i64 c] := by
  obtain ⟨y0, y1, y2, n, _, hl, h0, h1, h2⟩ := Go.Deep.trod_struct3 Tryz.underlying23 h
  rw [cells23] at hl
  match cs, hl with
  | [c0, c1, c2], _ =>
    simp only [cells3, List.drop_zero, List.drop_succ_cons, List.take_succ_cons, List.take_zero] at h0 h1 h2
    obtain ⟨x0, e0, _⟩ := DataW.trod_int Tryz.underlying3 h0
    obtain ⟨x1, e1, _⟩ := DataW.trod_int Tryz.underlying3 h1
    obtain ⟨x2, e2, _⟩ := DataW.trod_int Tryz.underlying3 h2
    simp at e0 e1 e2
    exact ⟨x0, x1, x2, by rw [e0, e1, e2]⟩
set_option maxRecDepth 100000 in
theorem trod_md {H : Type} {enc : TypeId × Value → H} {W : World} {base f : Nat} {sp : Nat → Bool} {held : Bool} {cs : List Value} {y : DataW H × List MemPlace} (h : DataW.trod enc Tryz.prog W base sp held f 25 cs = some y) :
    ∃ x : Md, cs = mc x := by
  obtain ⟨y0, y1, n, _, hl, h0, h1⟩ := trod_struct2 Tryz.underlying25 h
  rw [cells25] at hl
  match cs, hl with
  | [c0, c1, c2, c3], _ =>
    simp only [cells9, cells23, List.drop_zero, List.drop_succ_cons, List.take_succ_cons, List.take_zero] at h0 h1
    obtain ⟨s, e0, _⟩ := DataW.trod_string Tryz.underlying9 h0
    obtain ⟨a, b, c, e1⟩ := trod_vv h1
    simp at e0 e1
    obtain ⟨rfl, rfl, rfl⟩ := e1
    exact ⟨(s, a, b, c), by rw [e0]; rfl⟩
set_option maxRecDepth 100000 in
/-- A MODULE THAT CAME IN, by value -/
theorem open_md {H : Type} {enc : TypeId × Value → H} {W : World} {base : Nat} {sp : Nat → Bool} {v : Value} {d : DataW H} {p : List MemPlace}
    (hv : Value.okWide Tryz.prog W .any base 25 v) (h : DataW.Trod enc Tryz.prog W 0 sp true 25 v d p) : ∃ x : Md, v = md x := by
  obtain ⟨cs, rfl, hsz⟩ := okWide_struct Tryz.underlying25 hv
  obtain ⟨fuel, hf⟩ := h
  obtain ⟨x, hx⟩ := trod_md hf
  refine ⟨x, ?_⟩
  have : cs.toList = mc x := hx
  rw [show cs = (mc x).toArray by rw [← this]]
  rfl
end Go.Proofs.YtmmghdicjpfdoaaGreatDoor
