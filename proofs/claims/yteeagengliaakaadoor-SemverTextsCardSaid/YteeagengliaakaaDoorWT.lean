/-
  The validity and the text of a version are as the rules describe: the law SemverTexts. Conditions: the table of powers of ten, and that internal/bytealg.MaxLen holds some number.
-/
import Derived.Test.YteeagengliaakaaDoorT2
import Derived.Test.YteeagengliaakaaDoorG
namespace Go.Proofs.YteeagengliaakaaDoor
open Go.RowKit
set_option linter.unusedSimpArgs false
set_option linter.unusedVariables false
/-- a version in a block, the table, the number -/
abbrev SX (w0 : World) (p : Nat) (a b c : Int) (w : World) : Prop :=
  Below w0.heap.size w0 w ∧ P10 w ∧ Mx w ∧ w.cell? ⟨p, 0, none⟩ = some (.int .i64 a) ∧ w.cell? ⟨p, 1, none⟩ = some (.int .i64 b) ∧ w.cell? ⟨p, 2, none⟩ = some (.int .i64 c)
theorem SX.keep {w0 w w' : World} {p : Nat} {a b c : Int} (h : SX w0 p a b c w) (hb : Below w.heap.size w w') : SX w0 p a b c w' :=
  ⟨h.1.trans (hb.mono h.1.size), P10.keep h.2.1 hb, h.2.2.1.keep hb h.2.2.1.1, cell_keep h.2.2.2.1 hb, cell_keep h.2.2.2.2.1 hb, cell_keep h.2.2.2.2.2 hb⟩
theorem SX.tab {w0 w : World} {p : Nat} {a b c : Int} (h : SX w0 p a b c w) : P10 w := h.2.1
theorem SX.mx {w0 w : World} {p : Nat} {a b c : Int} (h : SX w0 p a b c w) : Mx w := h.2.2.1
theorem SX.below {w0 w : World} {p : Nat} {a b c : Int} (h : SX w0 p a b c w) : Below w0.heap.size w0 w := h.1
set_option maxRecDepth 100000 in
set_option maxHeartbeats 4000000 in
theorem law_texts (a b c : Int) (w : World) (hT : P10 w) (hM : Mx w) :
    Calls Tryd.prog 3 #[vv a b c] w fun e w' => e = .returned (.bool true) ∧ Below w.heap.size w w' := by
  obtain ⟨v, hv⟩ : ∃ v, okV a b c = v := ⟨_, rfl⟩
  obtain ⟨s, hs⟩ : ∃ s, txt a b c = s := ⟨_, rfl⟩
  have C1 := Lib.hid (fun w => valid_at a b c v hv w)
  have C2 := Lib.hid (fun w => rvalid_at a b c v hv w)
  have C3 := Lib.hid (fun w hT => text_at a b c s hs w hT)
  have C4 := Lib.hid (fun w => rtext_at a b c s hs w)
  obtain ⟨w0, hw0⟩ : ∃ w0, w0 = w.alloc (.cells #[.int .i64 a, .int .i64 b, .int .i64 c] 23) := ⟨_, rfl⟩
  have hB : Below w.heap.size w w0 := by subst hw0; exact (Below.refl w.heap.size w).alloc (Nat.le_refl _) _
  have hS : SX w w.heap.size a b c w0 := by
    refine ⟨hB, P10.keep hT hB, hM.keep hB hM.1, ?_⟩
    subst hw0
    have R1 : Row3 (w.alloc (.cells #[.int .i64 a, .int .i64 b, .int .i64 c] 23)) w.heap.size a b c := Row3.new w a b c 23 _ rfl
    exact ⟨R1.c0, R1.c1, R1.c2⟩
  have Hw := Lib.hid hw0
  clear hv hs hT hM hB hw0
  unfold vv at *
  go_enter Tryd.func3, Tryd.ntmps3
  go_wp2_with fail
  rw [← Hw.out]
  clear Hw
  go_region_held3 (fun w' => SX w w.heap.size a b c w') (first | exact SX.keep hS ((Below.refl _ _).drew) | exact SX.keep (by assumption) (by assumption))
    (first | (go_at_call 11; ((with_reducible refine (C1.out _).mono ?_)); rintro e w' ⟨rfl, hbN⟩) | (go_at_call 12; ((with_reducible refine (C2.out _).mono ?_)); rintro e w' ⟨rfl, hbN⟩) | (go_at_call 13; ((with_reducible refine (C3.out _ (SX.tab (w0 := w) (p := w.heap.size) (a := a) (b := b) (c := c) (by assumption))).mono ?_)); rintro e w' ⟨rfl, hbN⟩) | (go_at_call 14; ((with_reducible refine (C4.out _).mono ?_)); rintro e w' ⟨rfl, hbN⟩) | (go_at_call 15; ((with_reducible refine (example_any _ (SX.mx (w0 := w) (p := w.heap.size) (a := a) (b := b) (c := c) (by assumption))).mono ?_)); rintro e w' ⟨rfl, hbN⟩))
  all_goals (go_wp2_with fail; go_ret; exact ⟨rfl, SX.below (by assumption)⟩)
end Go.Proofs.YteeagengliaakaaDoor
