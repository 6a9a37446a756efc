/-
  An array of two bytes that came in, opened. No condition.
-/
import Derived.Test.YtiaegcacccaodaaGreatDoorF
namespace Go.Proofs.YtiaegcacccaodaaGreatDoor
open Go.ChangeShapes Go.WideShapes Go.ChangeAt Go.RowKit
set_option linter.unusedSimpArgs false
set_option linter.unusedVariables false
theorem cells51 : Tryz.prog.cellsOf 51 = 2 := by kernel_rfl
theorem cells5 : Tryz.prog.cellsOf 5 = 1 := by kernel_rfl
theorem wf_u8 {x : Int} (h : (Lit.int .u8 x).wf = true) : 0 ≤ x ∧ x ≤ 255 := by
  simpa [Lit.wf, IntKind.min, IntKind.max, IntKind.signed, IntKind.bits] using h
theorem as_u8 {x : Int} (h : 0 ≤ x ∧ x ≤ 255) : ∃ c : UInt8, x = (c.toNat : Int) := by
  refine ⟨UInt8.ofNat x.toNat, ?_⟩
  rw [UInt8.toNat_ofNat']
  omega
set_option maxRecDepth 100000 in
theorem open_arr2 {H : Type} {enc : TypeId × Value → H} {W : World} {base : Nat} {sp : Nat → Bool} {v : Value} {d : DataW H} {p : List MemPlace}
    (hv : Value.okWide Tryz.prog W .any base 51 v) (h : DataW.Trod enc Tryz.prog W 0 sp true 51 v d p) : ∃ a b : UInt8, v = .agg #[.int .u8 (a.toNat : Int), .int .u8 (b.toNat : Int)] := by
  obtain ⟨cs, rfl, hsz, _⟩ : ∃ cs, v = .agg cs ∧ cs.size = Tryz.prog.cellsOf 51 ∧ Row.okWide Tryz.prog W .any base 51 cs := by
    simpa [Value.okWide, Tryz.underlying51] using hv
  rw [cells51] at hsz
  obtain ⟨l⟩ := cs
  obtain ⟨c0, c1, rfl⟩ : ∃ c0 c1, l = [c0, c1] := by
    rcases l with _ | ⟨c0, _ | ⟨c1, _ | ⟨c2, l⟩⟩⟩
    · simp at hsz
    · simp at hsz
    · exact ⟨c0, c1, rfl⟩
    · simp at hsz
  obtain ⟨fuel, hf⟩ := h
  obtain ⟨xs, m, _, _, _, hl, hx⟩ := DataW.trod_array Tryz.underlying51 hf
  rcases xs with _ | ⟨y0, _ | ⟨y1, _ | ⟨y2, l⟩⟩⟩
  · simp at hl
  · simp at hl
  · have h0 := hx 0 (by omega)
    have h1 := hx 1 (by omega)
    rw [cells5] at h0 h1
    obtain ⟨x0, e0, _, w0⟩ := DataW.trod_int Tryz.underlying5 h0
    obtain ⟨x1, e1, _, w1⟩ := DataW.trod_int Tryz.underlying5 h1
    have f0 : [c0] = [Value.int .u8 x0] := e0
    have f1 : [c1] = [Value.int .u8 x1] := e1
    clear e0 e1 h0 h1 hx
    simp only [List.cons.injEq, and_true] at f0 f1
    subst f0 f1
    obtain ⟨a, rfl⟩ := as_u8 (wf_u8 w0)
    obtain ⟨b, rfl⟩ := as_u8 (wf_u8 w1)
    exact ⟨a, b, rfl⟩
  · simp at hl
end Go.Proofs.YtiaegcacccaodaaGreatDoor
