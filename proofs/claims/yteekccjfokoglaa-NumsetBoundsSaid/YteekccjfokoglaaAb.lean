/-
  Bound at the chapter's inputs. No condition.
-/
import Derived.Test.YteekccjfokoglaaAa
namespace Go.Proofs.Yteekccjfokoglaa
open Go.RowKit Go.Sort Go.Lib Go.Proofs
set_option linter.unusedSimpArgs false
set_option linter.unnecessarySimpa false
set_option linter.unusedVariables false
/-- what Bound hands back -/
def BoundIs (s : NS) (n : Int) (w : World) (e : Ending) (w' : World) : Prop :=
  ∃ A1 c1 A2 c2, e = .returned (.tuple #[nv A1 s.1.length c1 A2 s.2.length c2, .int .i64 n]) ∧ (Ns w' A1 c1 A2 c2 s ∧ Hi w.heap.size A1 ∧ Hi w.heap.size A2) ∧ Below w.heap.size w w'
theorem bound_eq (w : World) : Calls Try.prog 35 #[.string ⟨#[61]⟩, .int .i64 1] w (BoundIs ([], []) 8 w) := by
  go_enter Try.func35, Try.ntmps35
  go_wp2
  refine bodyPost_ret (v := .tuple #[nv none 0 0 none 0 0, .int .i64 8]) (by simp [results, Try.results35, go_sem]) rfl ?_
  exact ⟨none, 0, none, 0, rfl, ⟨ns_nil _, hi_nil _, hi_nil _⟩, bal w _⟩
theorem bound_ne (w : World) : Calls Try.prog 35 #[.string ⟨#[33, 61]⟩, .int .i64 1000000000000001] w (BoundIs ([], []) 1 w) := by
  have HV := Lib.hid (fun W => vb (x := 1000000000000001) (r := false) (by unfold i64ok; omega) (by decide) W)
  go_enter Try.func35, Try.ntmps35
  go_wp2_with (go_at_call 58; with_reducible refine (HV.out _).mono ?_; rintro e w' ⟨rfl, rfl⟩)
  refine bodyPost_ret (v := .tuple #[nv none 0 0 none 0 0, .int .i64 1]) (by simp [results, Try.results35, go_sem]) rfl ?_
  exact ⟨none, 0, none, 0, rfl, ⟨ns_nil _, hi_nil _, hi_nil _⟩, bal w _⟩
theorem bound_lt (w : World) : Calls Try.prog 35 #[.string ⟨#[60]⟩, .int .i64 15000] w (BoundIs (btw (-1000000000000000) 14999) 0 w) := by
  have HV := Lib.hid (fun W => vb (x := 15000) (r := true) (by unfold i64ok; omega) (by decide) W)
  have HB := Lib.hid (fun W => between_any (-1000000000000000) 14999 W (by omega) (by omega) (by omega))
  have HY := Lib.hid (yb_new w)
  generalize btw (-1000000000000000) 14999 = S at *
  go_enter Try.func35, Try.ntmps35
  go_wp2_with (go_at_call 58; with_reducible refine (HV.out _).mono ?_; rintro e w' ⟨rfl, rfl⟩)
  refine (HB.out _).mono ?_
  rintro e w2 ⟨E1, e1, E2, e2, rfl, ⟨hns, h1, h2⟩, hb2⟩
  have hbW := bal w2 (.cells #[.slice E1 S.1.length e1, .slice E2 S.2.length e2] 24)
  have hY4 := (HY.out.up hb2).up hbW
  obtain ⟨y0, y1, f0, f1, yl⟩ := id hY4
  have i1 : Hi (w.heap.size + 1) E1 := h1.le (by simp)
  have i2 : Hi (w.heap.size + 1) E2 := h2.le (by simp)
  have hB2 := (bal w (.cells #[.slice none 0 0, .slice none 0 0] 24)).trans (hb2.mono (by simp))
  obtain ⟨⟨q0, q1⟩, hfn, hfb⟩ := fin_set hY4 (hns.up hbW) i1 i2 S.1.length S.2.length
  have HE := Lib.hid (show BoundIs S 0 w (.returned (.tuple #[nv E1 S.1.length e1 E2 S.2.length e2, .int .i64 0])) (((w2.alloc (.cells #[.slice E1 S.1.length e1, .slice E2 S.2.length e2] 24)).setCell ⟨w.heap.size, 0, none⟩ (.slice E1 S.1.length e1)).setCell ⟨w.heap.size, 1, none⟩ (.slice E2 S.2.length e2)) from
    ⟨E1, e1, E2, e2, rfl, ⟨hfn, i1.le (by omega), i2.le (by omega)⟩, (hB2.trans (hbW.mono hB2.size)).trans hfb⟩)
  have y0' : w2.cell? ⟨w.heap.size, 0, none⟩ = some (.slice none 0 0) := (HY.out.up hb2).y0
  have y1' : w2.cell? ⟨w.heap.size, 1, none⟩ = some (.slice none 0 0) := (HY.out.up hb2).y1
  have f0' : w2.frozen? ⟨w.heap.size, 0, none⟩ = false := (HY.out.up hb2).f0
  have f1' : w2.frozen? ⟨w.heap.size, 1, none⟩ = false := (HY.out.up hb2).f1
  clear hfn hfb i1 i2 hY4 hns h1 h2 hb2 hB2 hbW
  go_wp2_with fail
  refine bodyPost_ret (v := .tuple #[nv E1 S.1.length e1 E2 S.2.length e2, .int .i64 0]) (by simp [results, Try.results35, go_sem, q0, q1]) rfl HE.out
end Go.Proofs.Yteekccjfokoglaa
