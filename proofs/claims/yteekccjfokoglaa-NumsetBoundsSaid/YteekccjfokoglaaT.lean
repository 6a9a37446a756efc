/-
  Same, Valid, empty, Subset, All, Ints. No condition but the bounds on the lists.
-/
import Derived.Test.YteekccjfokoglaaS
namespace Go.Proofs.Yteekccjfokoglaa
open Go.RowKit Go.Sort Go.Lib Go.Proofs
set_option linter.unusedSimpArgs false
set_option linter.unnecessarySimpa false
set_option linter.unusedVariables false
def eqN (s t : NS) : Bool := eqL s.1 t.1 && eqL s.2 t.2
theorem eqN_iff (s t : NS) : eqN s t = true ↔ s = t := by simp [eqN, eqL, Prod.ext_iff]
theorem eqN_dec (s t : NS) : eqN s t = decide (s = t) := by rw [Bool.eq_iff_iff, eqN_iff]; simp
theorem EqIs.out {b : Bool} {w w' : World} {e : Ending} (h : EqIs b w e w') : e = .returned (.bool b) ∧ Below w.heap.size w w' := h
set_option maxRecDepth 100000 in
set_option maxHeartbeats 1000000 in
theorem same_any (A1 A2 B1 B2 : Option Addr) (c1 c2 d1 d2 : Nat) (s t : NS) (w : World) (hN : Ns w A1 c1 A2 c2 s) (hM : Ns w B1 d1 B2 d2 t) (hk : okN 100000 s) (hj : okN 100000 t) :
    Calls Try.prog 14 #[nv A1 s.1.length c1 A2 s.2.length c2, nv B1 t.1.length d1 B2 t.2.length d2] w (EqIs (eqN s t) w) := by
  have H1 := Lib.hid (fun W (hb : Below w.heap.size w W) => spans_50 A1 B1 c1 d1 s.1 t.1 W (hN.r1.up hb) (hM.r1.up hb) (by have := hk.1; omega) (by have := hj.1; omega))
  have H2 := Lib.hid (fun W (hb : Below w.heap.size w W) => spans_50 A2 B2 c2 d2 s.2 t.2 W (hN.r2.up hb) (hM.r2.up hb) (by have := hk.2.1; omega) (by have := hj.2.1; omega))
  clear hN hM hk hj
  unfold eqN
  have hb0 : Below w.heap.size w ((w.alloc (.cells #[.slice A1 s.1.length c1, .slice A2 s.2.length c2] 24)).alloc (.cells #[.slice B1 t.1.length d1, .slice B2 t.2.length d2] 24)) := ((Below.refl _ _).alloc (Nat.le_refl _) _).alloc (by simp) _
  have HB0 := Lib.hid hb0
  clear hb0
  cases h1 : eqL s.1 t.1
  · rw [h1] at H1
    go_enter Try.func14, Try.ntmps14
    go_wp2_with (go_at_call 50; refine (H1.out _ HB0.out).mono ?_; rintro e w2 ⟨rfl, hb2⟩)
    go_ret
    exact ⟨rfl, HB0.out.trans (hb2.mono HB0.out.size)⟩
  · rw [h1] at H1
    cases h2 : eqL s.2 t.2
    · rw [h2] at H2
      go_enter Try.func14, Try.ntmps14
      go_wp2_with fail
      refine (H1.out _ HB0.out).mono ?_
      rintro e w2 ⟨rfl, hb2⟩
      have hb2' := HB0.out.trans (hb2.mono HB0.out.size)
      have a1 : w2.cell? ⟨w.heap.size, 1, none⟩ = some (.slice A2 s.2.length c2) := by rw [hb2.cell (p := ⟨w.heap.size, 1, none⟩) (by show w.heap.size < _; simp; omega)]; simp
      have a2 : w2.cell? ⟨w.heap.size + 1, 1, none⟩ = some (.slice B2 t.2.length d2) := by rw [hb2.cell (p := ⟨w.heap.size + 1, 1, none⟩) (by show w.heap.size + 1 < _; simp)]; simp
      have HB2 := Lib.hid hb2'
      clear hb2 hb2'
      go_wp2_with fail
      refine (H2.out _ HB2.out).mono ?_
      rintro e w3 ⟨rfl, hb3⟩
      have HB3 := Lib.hid (HB2.out.trans (hb3.mono HB2.out.size))
      clear hb3
      go_wp2_with fail
      go_ret
      exact ⟨rfl, HB3.out⟩
    · rw [h2] at H2
      go_enter Try.func14, Try.ntmps14
      go_wp2_with fail
      refine (H1.out _ HB0.out).mono ?_
      rintro e w2 ⟨rfl, hb2⟩
      have hb2' := HB0.out.trans (hb2.mono HB0.out.size)
      have a1 : w2.cell? ⟨w.heap.size, 1, none⟩ = some (.slice A2 s.2.length c2) := by rw [hb2.cell (p := ⟨w.heap.size, 1, none⟩) (by show w.heap.size < _; simp; omega)]; simp
      have a2 : w2.cell? ⟨w.heap.size + 1, 1, none⟩ = some (.slice B2 t.2.length d2) := by rw [hb2.cell (p := ⟨w.heap.size + 1, 1, none⟩) (by show w.heap.size + 1 < _; simp)]; simp
      have HB2 := Lib.hid hb2'
      clear hb2 hb2'
      go_wp2_with fail
      refine (H2.out _ HB2.out).mono ?_
      rintro e w3 ⟨rfl, hb3⟩
      have HB3 := Lib.hid (HB2.out.trans (hb3.mono HB2.out.size))
      clear hb3
      go_wp2_with fail
      go_ret
      exact ⟨rfl, HB3.out⟩
end Go.Proofs.Yteekccjfokoglaa
