/-
  What the example's comparison calls: divide, at the numbers that it calls it with. No condition but on the cells.
-/
import Derived.Test.YtlanjfjmffcgdaaQ
namespace Go.Proofs.Ytlanjfjmffcgdaa
open Go.RowKit
set_option linter.unusedSimpArgs false
set_option linter.unusedVariables false
set_option maxRecDepth 100000 in
set_option maxHeartbeats 8000000 in
theorem divide_ex (ga oa ca gb ob cb gc oc cc : Nat) (w : World) (ha0 : w.cell? ⟨ga, oa, none⟩ = some (.int .i64 1)) (ha1 : w.cell? ⟨ga, oa + 1, none⟩ = some (.int .i64 2)) (hb0 : w.cell? ⟨gb, ob, none⟩ = some (.int .i64 2)) (hc0 : w.cell? ⟨gc, oc, none⟩ = some (.int .i64 3)) :
    Calls Try.prog 40 #[.slice (some ⟨ga, oa, none⟩) 2 ca, .slice (some ⟨gb, ob, none⟩) 1 cb, .slice (some ⟨gc, oc, none⟩) 1 cc] w fun e w' => e = .returned (.int .i64 2) ∧ Below w.heap.size w w' := by
  have C1 := Lib.hid (lengths_hit ga oa ca gb ob cb w ha0 ha1 hb0)
  have HA0 := Lib.hid ha0
  have HA1 := Lib.hid ha1
  have HC0 := Lib.hid hc0
  clear ha0 ha1 hb0 hc0
  go_enter Try.func40, Try.ntmps40
  go_wp2_with fail
  refine C1.out.mono ?_
  rintro e w1 ⟨g, rfl, t1, hb1⟩
  have T1 := Lib.hid t1
  have B1 := Lib.hid hb1
  have C2 := Lib.hid (reversed_any ga oa ca [1, 2] w1 (by simp) (by simp) (fun j hj => by
    have : j = 0 ∨ j = 1 := by simp at hj; omega
    rcases this with rfl | rfl
    · exact cell_keep HA0.out hb1
    · exact cell_keep HA1.out hb1))
  clear t1 hb1 C1
  go_wp2_with fail
  refine C2.out.mono ?_
  rintro e w2 ⟨g2, k2, rfl, _, hz2, hc2, hb2⟩
  have B2 := Lib.hid (B1.out.trans (hb2.mono B1.out.size))
  have T2 := Lib.hid (T1.out.below hb2)
  have X0 : Hid (w2.cell? ⟨g2, 0, none⟩ = some (.int .i64 2)) := Lib.hid (hc2 0 (by simp))
  have X1 : Hid (w2.cell? ⟨g2, 0 + 1, none⟩ = some (.int .i64 1)) := Lib.hid (hc2 1 (by simp))
  have C3 := Lib.hid (reversed_any gc oc cc [3] w2 (by simp) (by simp) (fun j hj => by
    have : j = 0 := by simp at hj; omega
    subst this
    exact cell_keep HC0.out B2.out))
  clear hb2 hc2 C2 T1 B1
  go_wp2_with fail
  refine C3.out.mono ?_
  rintro e w3 ⟨g3, k3, rfl, _, hz3, hc3, hb3⟩
  have B3 := Lib.hid (B2.out.trans (hb3.mono B2.out.size))
  have T3' := Lib.hid (T2.out.below hb3)
  have C4 := Lib.hid (lengths_miss g2 0 k2 g3 0 k3 w3 (cell_keep X0.out hb3) (cell_keep X1.out hb3) (hc3 0 (by simp)))
  clear hb3 hc3 C3 T2 B2 X0 X1
  go_wp2_with fail
  refine C4.out.mono ?_
  rintro e w4 ⟨g4, rfl, t4, hb4⟩
  have B4 := Lib.hid (B3.out.trans (hb4.mono B3.out.size))
  have T4 := Lib.hid (T3'.out.below hb4)
  obtain ⟨_, b0, b1, b2⟩ := T4.out.facts
  obtain ⟨_, c0, c1, c2⟩ := t4.facts
  clear hb4 C4 B3 T3' t4
  go_wp2_with fail
  refine wp_loop_rounds 4 ?_
  rw [rounds_succ]
  go_wp2_with fail
  go_quiet (fail)
  go_wp2_with fail
  rw [rounds_succ]
  go_wp2_with fail
  go_quiet (fail)
  go_wp2_with fail
  rw [rounds_succ]
  go_wp2_with fail
  go_quiet (fail)
  go_wp2_with fail
  rw [rounds_succ]
  go_wp2_with fail
  go_ret
  exact ⟨rfl, bdrewN B4.out _⟩
