/-
  What the rows need: the table of powers of ten out of the rows' list, slices of steps that came in, and a world for the witnesses. No condition.
-/
import Derived.Test.YtaocgibfabofhaaDoorCards
import Derived.Test.YtaocgibfabofhaaDoorTie
import Derived.Test.YtaocgibfabofhaaDoorX1
import Derived.ProofKit
import Derived.OpenShut
import Derived.ShutString
import Derived.ChangeOld
import Derived.Below
import Derived.Deep.DeepHandedRow
import Derived.Deep.DeepWitnessRowRef
import Derived.Deep.Slices
import Derived.Deep.Fields
import Derived.ChangeSame
import Derived.LaidMore
import Derived.Lib.SmallJoins
import Derived.Lib.LaidTab
import Derived.LaidSub
import Derived.ChangeMaps5
import Derived.SliceStrings
namespace Go.Proofs.YtaocgibfabofhaaDoor
open Go.ChangeShapes Go.WideShapes Go.ChangeAt Go.RowKit Go.Deep
set_option linter.unusedSimpArgs false
set_option linter.unusedVariables false
theorem own : ownKnob Tryd.prog.godebug = none := by kernel_rfl
theorem laidOut : laidOutB Tryd.prog = true := by kernel_rfl
theorem cells37 : Tryd.prog.cellsOf 37 = 2 := by kernel_rfl
theorem gP10 : Tryd.prog.globalNamed "internal/strconv.uint64pow10" = some 1 := by kernel_rfl
theorem gP10T : (Tryd.prog.globals[1]?).map (·.type) = some 94 := by kernel_rfl
def pow10L : List Int := [1, 10, 100, 1000, 10000, 100000, 1000000, 10000000, 100000000, 1000000000, 10000000000, 100000000000, 1000000000000, 10000000000000, 100000000000000, 1000000000000000, 10000000000000000, 100000000000000000, 1000000000000000000, 10000000000000000000]
theorem pow10_eq : Lib.pow10Tab = pow10L := by decide +kernel
theorem cells94 : Tryd.prog.cellsOf 94 = 20 := by kernel_rfl
theorem cells85 : Tryd.prog.cellsOf 85 = 1 := by kernel_rfl
theorem keep_one (a b c : DataW Unit) :
    [("math/bits.deBruijn32tab", a), ("math/bits.deBruijn64tab", b), ("internal/strconv.uint64pow10", c)].filter (fun x => x.1 == "internal/strconv.uint64pow10") = [("internal/strconv.uint64pow10", c)] := by simp
theorem p10_of {W : World} (h : laidMetH Tryd.prog [("math/bits.deBruijn32tab", Rows.laid_math_bits_deBruijn32tab), ("math/bits.deBruijn64tab", Rows.laid_math_bits_deBruijn64tab), ("internal/strconv.uint64pow10", Rows.laid_internal_strconv_uint64pow10)] W) : P10 W := by
  have h1 := h.filter (fun x => x.1 == "internal/strconv.uint64pow10")
  rw [keep_one] at h1
  have h2 : Lib.TabIs Tryd.prog W "internal/strconv.uint64pow10" .u64 pow10L := Lib.tabIs_of_head (rest := []) gP10 gP10T Tryd.underlying94 Tryd.underlying85 cells85 cells94 h1
  unfold P10
  rw [pow10_eq]
  exact h2
theorem two_fields (fs : Array Field) (h : Tryd.prog.underlying 37 = some (.struct fs)) : ∃ f0 f1, fs = #[f0, f1] ∧ f0.type = 9 ∧ f0.offset = 0 ∧ f1.type = 3 ∧ f1.offset = 1 := by
  have e := Tryd.underlying37.symm.trans h
  simp only [Option.some.injEq, TypeDesc.struct.injEq] at e
  subst e
  exact ⟨_, _, rfl, rfl, rfl, rfl, rfl⟩
theorem cells9 : Tryd.prog.cellsOf 9 = 1 := by kernel_rfl
theorem cells3 : Tryd.prog.cellsOf 3 = 1 := by kernel_rfl
set_option maxRecDepth 100000 in
/-- a step's two cells -/
theorem step_cells {H : Type} {enc : TypeId × Value → H} {W : World} {base : Nat} {sp : Nat → Bool} {n : Nat} {cs : List Value} {x : DataW H × List MemPlace}
    (h : DataW.trod enc Tryd.prog W base sp true n 37 cs = some x) : ∃ (s : ByteArray) (i : Int), cs = [.string s, .int .i64 i] ∧ s.size ≤ maxLen := by
  obtain ⟨xs, m, _, _, hl, hxl, hf⟩ := DataW.trod_struct Tryd.underlying37 h
  rw [cells37] at hl
  match cs, hl with
  | [u, v], _ =>
    match xs, hxl with
    | [y0, y1], _ =>
      have h0 := hf 0 _ rfl
      have h1 := hf 1 _ rfl
      obtain ⟨s, e0, _, hs⟩ := DataW.trod_string Tryd.underlying9 (cs := [u]) (x := y0) h0
      obtain ⟨i, e1, _, _⟩ := DataW.trod_int Tryd.underlying3 (cs := [v]) (x := y1) h1
      injection e0 with e0
      injection e1 with e1
      subst e0 e1
      exact ⟨s, i, rfl, hs⟩
/-- A SLICE OF STEPS THAT CAME IN -/
theorem open_steps {H : Type} {enc : TypeId × Value → H} {W : World} {base : Nat} {v : Value} {d : DataW H} {p : List MemPlace}
    (hv : Value.okWide Tryd.prog W .any base 22 v) (h : DataW.Trod enc Tryd.prog W 0 (fun _ => true) true 22 v d p) :
    ∃ (A : Option Addr) (c : Nat) (xs : List St), v = .slice A xs.length c ∧ xs.length ≤ c ∧ c ≤ maxLen ∧ Rd W W.heap.size A xs := by
  obtain ⟨A0, l0, k0, rfl⟩ := okWide_slice Tryd.underlying22 hv
  obtain ⟨fuel, hf⟩ := h
  rcases open_slice Tryd.underlying22 hf with ⟨h0, _⟩ | ⟨a, len, cap, m, n, D, Pl, hcs, hb, hl, hm, hmm, hx, hi⟩
  · have e : (Value.slice A0 l0 k0) = .slice none 0 0 := by simpa [Value.cells] using h0
    injection e with e1 e2 e3
    subst e1 e2 e3
    exact ⟨none, 0, [], rfl, Nat.le_refl _, Nat.zero_le _, rd_nil _ _ _⟩
  · have e : (Value.slice A0 l0 k0) = .slice (some a) len cap := by simpa [Value.cells] using hcs
    injection e with e1 e2 e3
    subst e1 e2 e3
    have hmm' : m = k0 := by simpa using hmm
    subst hmm'
    have hall : ∀ i : Nat, ∃ x : St, i < l0 → W.cell? (a.add (i * 2)) = some (.string x.1) ∧ W.cell? (a.add (i * 2 + 1)) = some (.int .i64 x.2) := by
      intro i
      by_cases hlt : i < l0
      · obtain ⟨cs', hc, ht⟩ := hi i (by omega)
        obtain ⟨s, j, rfl, _⟩ := step_cells ht
        rw [cells37] at hc
        obtain ⟨_, _, hat⟩ := World.cells?_some hc
        have a0 := hat 0 (by omega)
        have a1 := hat 1 (by omega)
        rw [add_of_add] at a0 a1
        exact ⟨(s, j), fun _ => ⟨a0, a1⟩⟩
      · exact ⟨(⟨#[]⟩, 0), fun h => absurd h hlt⟩
    obtain ⟨F, hch⟩ := Classical.axiomOfChoice hall
    refine ⟨some a, m, (List.range l0).map F, by simp, by simpa using hl, hm, ⟨fun k hk => ?_⟩⟩
    have hkl : k < l0 := by simpa using hk
    have hc := hch k hkl
    refine ⟨a, rfl, ?_, by simpa using hc.1, ?_⟩
    · have := World.block_lt_of_cell? W _ hc.1
      rw [block_of_add] at this; exact this
    · have h1 := hc.2
      rw [← add_of_add] at h1
      have e : (a.add (k * 2)).add 1 = ⟨(a.add (k * 2)).block, (a.add (k * 2)).off + 1, none⟩ := by simp [Addr.add]
      rw [e] at h1
      simpa using h1
/-- a world for the witnesses: what the door's run leaves -/
noncomputable def lw (os : Os) : World := World.doorLaid Tryd.prog 200 os
end Go.Proofs.YtaocgibfabofhaaDoor
